/- VecM VecA VecB VecC VecD VecE VecF VecL VecG VecH VecI VecJ VecK VecN VecQ -/
import Derived.Test.YtkkeejbgaaodeaaBase
import Derived.WalkMore
import Derived.Deep.QuietTactic
import Derived.BigQuiet
import Derived.ArgAppend
import Derived.Maps.AppendAt
import Derived.Deep.Matrix
import Derived.OpenShut
import Derived.ProofKit
/-! Lists of numbers as vectors: extremes, products, gaps; rows in memory. -/
namespace Go.Proofs.Ytkkeejbgaaodeaa
open Go.RowKit
set_option linter.unusedVariables false
set_option linter.unusedSimpArgs false

def loL (a : Int) (l : List Int) : Int := l.foldl min a
def hiL (a : Int) (l : List Int) : Int := l.foldl max a
theorem le_loL (m : Int) : ∀ (l : List Int) (a : Int), m ≤ loL a l ↔ m ≤ a ∧ ∀ x ∈ l, m ≤ x
  | [], a => by simp [loL]
  | y :: l, a => by
    have h := le_loL m l (min a y)
    unfold loL at h ⊢
    rw [List.foldl_cons, h]
    simp only [List.forall_mem_cons]
    constructor
    · rintro ⟨h1, h2⟩; exact ⟨by omega, by omega, h2⟩
    · rintro ⟨h1, h2, h3⟩; exact ⟨by omega, h3⟩
theorem hiL_le (m : Int) : ∀ (l : List Int) (a : Int), hiL a l ≤ m ↔ a ≤ m ∧ ∀ x ∈ l, x ≤ m
  | [], a => by simp [hiL]
  | y :: l, a => by
    have h := hiL_le m l (max a y)
    unfold hiL at h ⊢
    rw [List.foldl_cons, h]
    simp only [List.forall_mem_cons]
    constructor
    · rintro ⟨h1, h2⟩; exact ⟨by omega, by omega, h2⟩
    · rintro ⟨h1, h2, h3⟩; exact ⟨by omega, h3⟩
theorem loL_snoc (a : Int) (l : List Int) (x : Int) : loL a (l ++ [x]) = min (loL a l) x := by simp [loL]
theorem hiL_snoc (a : Int) (l : List Int) (x : Int) : hiL a (l ++ [x]) = max (hiL a l) x := by simp [hiL]
theorem take_get (l : List Int) {k : Nat} (h : k < l.length) : l.take (k + 1) = l.take k ++ [l.getD k 0] := by
  rw [List.take_succ_eq_append_getElem h]
  simp [List.getD, h]
theorem loL_take (a : Int) (l : List Int) {k : Nat} (h : k < l.length) : loL a (l.take (k + 1)) = min (loL a (l.take k)) (l.getD k 0) := by rw [take_get l h, loL_snoc]
theorem hiL_take (a : Int) (l : List Int) {k : Nat} (h : k < l.length) : hiL a (l.take (k + 1)) = max (hiL a (l.take k)) (l.getD k 0) := by rw [take_get l h, hiL_snoc]
theorem loL_mem : ∀ (l : List Int) (a : Int), loL a l = a ∨ loL a l ∈ l
  | [], a => .inl rfl
  | y :: l, a => by
    have h := loL_mem l (min a y)
    unfold loL at h ⊢
    rw [List.foldl_cons]
    rcases h with h | h
    · rcases Int.le_total a y with g | g
      · left; rw [h]; omega
      · right; rw [h, show min a y = y from by omega]; simp
    · right; exact List.mem_cons_of_mem _ h
theorem hiL_mem : ∀ (l : List Int) (a : Int), hiL a l = a ∨ hiL a l ∈ l
  | [], a => .inl rfl
  | y :: l, a => by
    have h := hiL_mem l (max a y)
    unfold hiL at h ⊢
    rw [List.foldl_cons]
    rcases h with h | h
    · rcases Int.le_total a y with g | g
      · right; rw [h, show max a y = y from by omega]; simp
      · left; rw [h]; omega
    · right; exact List.mem_cons_of_mem _ h

/-- within the bounds of a vector's numbers -/
def okN (x : Int) : Prop := -2147483648 ≤ x ∧ x ≤ 2147483647
def isV (v : List Int) (d : Int) : Bool := decide (1 ≤ d ∧ d ≤ 8 ∧ (v.length : Int) = d ∧ ∀ x ∈ v, -2147483648 ≤ x ∧ x ≤ 2147483647)
def partsV (c : List Int) (d : Int) : Bool := decide (1 ≤ d ∧ d ≤ 8 ∧ (c.length : Int) = d ∧ (∀ x ∈ c, -4 ≤ x ∧ x ≤ 4) ∧ ∃ x ∈ c, x ≠ 0)
theorem isV_iff {v : List Int} {d : Int} : isV v d = true ↔ 1 ≤ d ∧ d ≤ 8 ∧ (v.length : Int) = d ∧ ∀ x ∈ v, -2147483648 ≤ x ∧ x ≤ 2147483647 := by unfold isV; exact decide_eq_true_iff
theorem partsV_iff {v : List Int} {d : Int} : partsV v d = true ↔ 1 ≤ d ∧ d ≤ 8 ∧ (v.length : Int) = d ∧ (∀ x ∈ v, -4 ≤ x ∧ x ≤ 4) ∧ ∃ x ∈ v, x ≠ 0 := by unfold partsV; exact decide_eq_true_iff
/-- what 'ends' tells of a row that is as long as it should be -/
def endsK (l : List Int) (d : Int) : Bool := decide (1 ≤ d ∧ d ≤ 8 ∧ (l.length : Int) = d)
def endsL (l : List Int) (d : Int) : Int := if endsK l d then loL (l.getD 0 0) l.tail else 0
def endsH (l : List Int) (d : Int) : Int := if endsK l d then hiL (l.getD 0 0) l.tail else 0
theorem endsK_iff {l : List Int} {d : Int} : endsK l d = true ↔ 1 ≤ d ∧ d ≤ 8 ∧ (l.length : Int) = d := by unfold endsK; exact decide_eq_true_iff
theorem ends_cons {l : List Int} {d : Int} (h : endsK l d = true) : ∃ a r, l = a :: r ∧ endsL l d = loL a r ∧ endsH l d = hiL a r := by
  have h2 := endsK_iff.1 h
  cases l with
  | nil => simp at h2; omega
  | cons a r => exact ⟨a, r, rfl, by unfold endsL; rw [if_pos h]; rfl, by unfold endsH; rw [if_pos h]; rfl⟩
theorem isV_ends (l : List Int) (d : Int) : isV l d = (endsK l d && (decide (-2147483648 ≤ endsL l d) && decide (endsH l d ≤ 2147483647))) := by
  rw [Bool.eq_iff_iff, isV_iff]
  by_cases h : endsK l d = true
  · obtain ⟨a, r, rfl, e1, e2⟩ := ends_cons h
    have h3 := endsK_iff.1 h
    simp only [h, Bool.true_and, Bool.and_eq_true, decide_eq_true_eq, e1, e2, le_loL, hiL_le, List.forall_mem_cons]
    constructor
    · rintro ⟨_, _, _, ⟨h4, h5⟩, h6⟩; exact ⟨⟨h4, fun x hx => (h6 x hx).1⟩, h5, fun x hx => (h6 x hx).2⟩
    · rintro ⟨⟨h4, h5⟩, h6, h7⟩; exact ⟨h3.1, h3.2.1, h3.2.2, ⟨h4, h6⟩, fun x hx => ⟨h5 x hx, h7 x hx⟩⟩
  · rw [Bool.not_eq_true] at h
    simp only [h, Bool.false_and, Bool.false_eq_true, iff_false]
    rintro ⟨h1, h2, h3, _⟩
    rw [endsK_iff.2 ⟨h1, h2, h3⟩] at h; cases h
theorem partsV_ends (l : List Int) (d : Int) : partsV l d = (endsK l d && (decide (-4 ≤ endsL l d) && (decide (endsH l d ≤ 4) && (decide (endsL l d < 0) || decide (0 < endsH l d))))) := by
  rw [Bool.eq_iff_iff, partsV_iff]
  by_cases h : endsK l d = true
  · obtain ⟨a, r, rfl, e1, e2⟩ := ends_cons h
    have h3 := endsK_iff.1 h
    simp only [h, Bool.true_and, Bool.and_eq_true, Bool.or_eq_true, decide_eq_true_eq, e1, e2, le_loL, hiL_le, List.forall_mem_cons]
    have hlo : loL a r < 0 ↔ ¬ (0 ≤ a ∧ ∀ x ∈ r, 0 ≤ x) := by rw [← le_loL]; omega
    have hhi : 0 < hiL a r ↔ ¬ (a ≤ 0 ∧ ∀ x ∈ r, x ≤ 0) := by rw [← hiL_le]; omega
    rw [hlo, hhi]
    constructor
    · rintro ⟨_, _, _, ⟨h4, h6⟩, y, hy, hy0⟩
      refine ⟨⟨h4.1, fun x hx => (h6 x hx).1⟩, ⟨h4.2, fun x hx => (h6 x hx).2⟩, ?_⟩
      rcases List.mem_cons.1 hy with rfl | hy
      · rcases Int.lt_or_gt_of_ne hy0 with g | g
        · left; rintro ⟨g1, _⟩; omega
        · right; rintro ⟨g1, _⟩; omega
      · rcases Int.lt_or_gt_of_ne hy0 with g | g
        · left; rintro ⟨_, g1⟩; have := g1 y hy; omega
        · right; rintro ⟨_, g1⟩; have := g1 y hy; omega
    · rintro ⟨⟨h4, h5⟩, ⟨h6, h7⟩, h8⟩
      refine ⟨h3.1, h3.2.1, h3.2.2, ⟨⟨h4, h6⟩, fun x hx => ⟨h5 x hx, h7 x hx⟩⟩, ?_⟩
      apply Classical.byContradiction
      intro hn
      have h0 : ∀ x ∈ a :: r, x = 0 := fun x hx => Classical.byContradiction fun hx0 => hn ⟨x, hx, hx0⟩
      have ha : a = 0 := h0 a (by simp)
      rcases h8 with h8 | h8
      · exact h8 ⟨by omega, fun x hx => by rw [h0 x (List.mem_cons_of_mem _ hx)]; omega⟩
      · exact h8 ⟨by omega, fun x hx => by rw [h0 x (List.mem_cons_of_mem _ hx)]; omega⟩
  · rw [Bool.not_eq_true] at h
    simp only [h, Bool.false_and, Bool.false_eq_true, iff_false]
    rintro ⟨h1, h2, h3, _⟩
    rw [endsK_iff.2 ⟨h1, h2, h3⟩] at h; cases h

/-- how far two rows are apart in their first k columns -/
def gapI (a b : List Int) : Nat → Int
  | 0 => 0
  | k + 1 => gapI a b k + (if b.getD k 0 < a.getD k 0 then a.getD k 0 - b.getD k 0 else b.getD k 0 - a.getD k 0)
theorem gapI_bd {a b : List Int} (ha : ∀ x ∈ a, okN x) (hb : ∀ x ∈ b, okN x) (k : Nat) : 0 ≤ gapI a b k ∧ gapI a b k ≤ 4294967295 * k := by
  induction k with
  | zero => simp [gapI]
  | succ k ih =>
    have g : ∀ (l : List Int), (∀ x ∈ l, okN x) → okN (l.getD k 0) := fun l hl => by
      rcases Nat.lt_or_ge k l.length with h | h
      · rw [List.getD_eq_getElem?_getD, List.getElem?_eq_getElem h]; exact hl _ (List.getElem_mem h)
      · rw [List.getD_eq_getElem?_getD, List.getElem?_eq_none h]; unfold okN; simp
    have g1 := g a ha
    have g2 := g b hb
    unfold okN at g1 g2
    simp only [gapI]
    split <;> omega
theorem gapI_symm (a b : List Int) (k : Nat) : gapI a b k = gapI b a k := by
  induction k with
  | zero => rfl
  | succ k ih => simp only [gapI, ih]; split <;> split <;> omega
theorem gapI_tri (a b c : List Int) (k : Nat) : gapI a c k ≤ gapI a b k + gapI b c k := by
  induction k with
  | zero => simp [gapI]
  | succ k ih => simp only [gapI]; split <;> split <;> split <;> omega
theorem gapI_nn (a b : List Int) (k : Nat) : 0 ≤ gapI a b k := by
  induction k with
  | zero => simp [gapI]
  | succ k ih => simp only [gapI]; split <;> omega
theorem gapI_zero (a b : List Int) (k : Nat) : gapI a b k = 0 ↔ ∀ j, j < k → a.getD j 0 = b.getD j 0 := by
  induction k with
  | zero => simp [gapI]
  | succ k ih =>
    have h0 := gapI_nn a b k
    simp only [gapI]
    constructor
    · intro h j hj
      have h1 : gapI a b k = 0 ∧ a.getD k 0 = b.getD k 0 := by split at h <;> omega
      rcases Nat.lt_or_ge j k with g | g
      · exact ih.1 h1.1 j g
      · rw [show j = k from by omega]; exact h1.2
    · intro h
      rw [ih.2 (fun j hj => h j (by omega)), h k (by omega)]
      simp
theorem ext_getD {a b : List Int} (h : a.length = b.length) (g : ∀ j, j < a.length → a.getD j 0 = b.getD j 0) : a = b := by
  refine List.ext_getElem h fun j h1 h2 => ?_
  have := g j h1
  rw [List.getD_eq_getElem?_getD, List.getD_eq_getElem?_getD, List.getElem?_eq_getElem h1, List.getElem?_eq_getElem h2] at this
  exact this
theorem gap_same {a b : List Int} (h : a.length = b.length) : gapI a b a.length = 0 ↔ a = b := by
  rw [gapI_zero]
  exact ⟨fun g => ext_getD h g, fun e => by rw [e]; intros; rfl⟩
/-- the first of those that are nearest, among the first k -/
def nearG (g : Nat → Int) : Nat → Nat × Int
  | 0 => (0, g 0)
  | k + 1 => if g k < (nearG g k).2 then (k, g k) else nearG g k
theorem nearG_one (g : Nat → Int) : nearG g 1 = (0, g 0) := by
  show (if g 0 < g 0 then _ else _) = _
  rw [if_neg (by omega)]; rfl

/-- what may be asked: two vectors of one dimension -/
def gapE (a b : List Int) : Bool := isV a b.length && isV b b.length
theorem gapE_iff {a b : List Int} : gapE a b = true ↔ isV a a.length = true ∧ isV b a.length = true := by
  unfold gapE
  simp only [Bool.and_eq_true, isV_iff]
  constructor
  · rintro ⟨⟨h1, h2, h3, h4⟩, h5, h6, h7, h8⟩; exact ⟨⟨by omega, by omega, trivial, h4⟩, by omega, by omega, by omega, h8⟩
  · rintro ⟨⟨h1, h2, h3, h4⟩, h5, h6, h7, h8⟩; exact ⟨⟨by omega, by omega, by omega, h4⟩, by omega, by omega, trivial, h8⟩
def gapN (a b : List Int) : Int := if gapE a b then gapI a b a.length else 0
def gapC (a b : List Int) : Int := if gapE a b then 0 else 40

/-- which comes first -/
def ordL : List Int → List Int → Int
  | [], [] => 0
  | [], _ :: _ => -1
  | _ :: _, [] => 1
  | x :: a, y :: b => if x < y then -1 else if y < x then 1 else ordL a b
theorem ordL_swap : ∀ a b : List Int, ordL b a = -ordL a b
  | [], [] => rfl
  | [], _ :: _ => rfl
  | _ :: _, [] => rfl
  | x :: a, y :: b => by
    have h := ordL_swap a b
    simp only [ordL]
    split <;> split <;> first | omega | rfl
theorem ordL_zero : ∀ a b : List Int, ordL a b = 0 ↔ a = b
  | [], [] => by simp [ordL]
  | [], _ :: _ => by simp [ordL]
  | _ :: _, [] => by simp [ordL]
  | x :: a, y :: b => by
    have h := ordL_zero a b
    simp only [ordL, List.cons.injEq]
    split
    · simp; omega
    · split
      · simp; omega
      · rw [h]; constructor
        · intro e; exact ⟨by omega, e⟩
        · exact fun e => e.2
theorem ordL_tri : ∀ a b c : List Int, ordL a b < 0 → ordL b c < 0 → ordL a c < 0
  | [], [], _, h, _ => by simp [ordL] at h
  | [], _ :: _, [], _, h => by simp [ordL] at h
  | [], _ :: _, _ :: _, _, _ => by simp [ordL]
  | _ :: _, [], _, h, _ => by simp [ordL] at h
  | _ :: _, _ :: _, [], _, h => by simp [ordL] at h
  | x :: a, y :: b, z :: c, h, g => by
    have hi := ordL_tri a b c
    simp only [ordL] at h g ⊢
    split at h
    · split at g
      · rw [if_pos (by omega)]; omega
      · split at g
        · omega
        · rw [if_pos (by omega)]; omega
    · split at h
      · omega
      · split at g
        · rw [if_pos (by omega)]; omega
        · split at g
          · omega
          · rw [if_neg (by omega), if_neg (by omega)]; exact hi h g
theorem ordL_cases (a b : List Int) : ordL a b = -1 ∨ ordL a b = 0 ∨ ordL a b = 1 := by
  induction a generalizing b with
  | nil => cases b <;> simp [ordL]
  | cons x a ih =>
    cases b with
    | nil => simp [ordL]
    | cons y b =>
      simp only [ordL]
      split
      · simp
      · split
        · simp
        · exact ih b
/-- the same so far: what is behind decides -/
theorem ordL_drop : ∀ (k : Nat) (a b : List Int), k ≤ a.length → k ≤ b.length → (∀ j, j < k → a.getD j 0 = b.getD j 0) → ordL a b = ordL (a.drop k) (b.drop k)
  | 0, a, b, _, _, _ => by simp
  | k + 1, [], b, h, _, _ => by simp at h
  | k + 1, _ :: _, [], _, h, _ => by simp at h
  | k + 1, x :: a, y :: b, h, g, e => by
    have h0 := e 0 (by omega)
    simp at h0
    subst h0
    have hi := ordL_drop k a b (by simp at h; omega) (by simp at g; omega) (fun j hj => by have := e (j + 1) (by omega); simpa using this)
    simp only [ordL, List.drop_succ_cons]
    rw [if_neg (by omega), if_neg (by omega), hi]
theorem drop_get (l : List Int) {k : Nat} (h : k < l.length) : l.drop k = l.getD k 0 :: l.drop (k + 1) := by
  rw [List.drop_eq_getElem_cons h]
  simp [List.getD, h]

theorem ord_at {a b : List Int} {k : Nat} (h : k < a.length) (g : k < b.length) (e : ∀ j, j < k → a.getD j 0 = b.getD j 0) :
    ordL a b = if a.getD k 0 < b.getD k 0 then -1 else if b.getD k 0 < a.getD k 0 then 1 else ordL (a.drop (k + 1)) (b.drop (k + 1)) := by
  rw [ordL_drop k a b (by omega) (by omega) e, drop_get a h, drop_get b g]; rfl
theorem ord_end {a b : List Int} (e : ∀ j, j < a.length → j < b.length → a.getD j 0 = b.getD j 0) :
    ordL a b = if (a.length : Int) < b.length then -1 else if (b.length : Int) < a.length then 1 else 0 := by
  rcases Nat.lt_or_ge b.length a.length with h | h
  · rw [ordL_drop b.length a b (by omega) (by omega) (fun j hj => e j (by omega) hj), drop_get a h, List.drop_length, if_neg (by omega), if_pos (by omega)]; rfl
  · rw [ordL_drop a.length a b (by omega) (by omega) (fun j hj => e j hj (by omega)), List.drop_length]
    rcases Nat.lt_or_ge a.length b.length with g | g
    · rw [drop_get b g, if_pos (by omega)]; rfl
    · rw [show a.length = b.length from by omega, List.drop_length, if_neg (by omega), if_neg (by omega)]; rfl
/-! Rows in memory. -/
structure Row where
  a : Option Addr
  l : List Int
  c : Nat
abbrev row0 : Row := ⟨none, [], 0⟩
def rowV (r : Row) : Value := .slice r.a r.l.length r.c
/-- rows of ints lie from A on, all in blocks below B -/
def LiesR (w : World) (B : Nat) (A : Option Addr) (R : List Row) : Prop :=
  (0 < R.length → ∃ ad : Addr, A = some ad ∧ ad.block < B ∧ ∀ j, j < R.length → w.cell? (ad.add j) = some (rowV (R.getD j row0))) ∧ ∀ r ∈ R, Lies w B r.a r.l
theorem LiesR.below {w w' : World} {B : Nat} {A : Option Addr} {R : List Row} (h : LiesR w B A R) (hb : Below B w w') : LiesR w' B A R := by
  refine ⟨fun h0 => ?_, fun r hr => (h.2 r hr).below hb⟩
  obtain ⟨ad, e, hB, hc⟩ := h.1 h0
  exact ⟨ad, e, hB, fun j hj => (hb.cell (by rw [add_block]; exact hB)).trans (hc j hj)⟩
theorem LiesR.mono {w : World} {B B' : Nat} {A : Option Addr} {R : List Row} (h : LiesR w B A R) (hB : B ≤ B') : LiesR w B' A R := by
  refine ⟨fun h0 => ?_, fun r hr => (h.2 r hr).mono hB⟩
  obtain ⟨ad, e, hb, hc⟩ := h.1 h0
  exact ⟨ad, e, by omega, hc⟩
theorem getD_mem {R : List Row} {k : Nat} (h : k < R.length) : R.getD k row0 ∈ R := by
  rw [List.getD_eq_getElem?_getD, List.getElem?_eq_getElem h]
  exact List.getElem_mem h
theorem LiesR.at {w : World} {B : Nat} {A : Option Addr} {R : List Row} (h : LiesR w B A R) {k : Nat} (hk : k < R.length) :
    ∃ ad : Addr, A = some ad ∧ ad.block < B ∧ w.cell? (ad.add k) = some (.slice (R.getD k row0).a (R.getD k row0).l.length (R.getD k row0).c) ∧ Lies w B (R.getD k row0).a (R.getD k row0).l := by
  obtain ⟨ad, e, hb, hc⟩ := h.1 (by omega)
  exact ⟨ad, e, hb, hc k hk, h.2 _ (getD_mem hk)⟩
theorem LiesR.nil {w : World} {B : Nat} {A : Option Addr} : LiesR w B A [] := ⟨fun h => absurd h (by simp), fun r hr => by cases hr⟩
/-- behind the first k of them -/
theorem lies_cut {w : World} {B c : Nat} {A : Option Addr} {l : List Int} (h : Lies w B A l) (f : Nat) (hf : f ≤ l.length) (hc : l.length ≤ c) :
    Lies w B (if c = f then A else A.map (·.add f)) (l.drop f) := fun h0 => by
  rw [List.length_drop] at h0
  obtain ⟨ad, rfl, hb, hcell⟩ := h (by omega)
  rw [if_neg (by omega)]
  refine ⟨ad.add f, rfl, by rw [add_block]; exact hb, fun j hj => ?_⟩
  rw [List.length_drop] at hj
  rw [Addr.add_add, hcell (f + j) (by omega)]
  congr 2
  rw [List.getD_eq_getElem?_getD, List.getD_eq_getElem?_getD, List.getElem?_drop]
theorem liesR_cut {w : World} {B c : Nat} {A : Option Addr} {R : List Row} (h : LiesR w B A R) (f : Nat) (hf : f ≤ R.length) (hc : R.length ≤ c) :
    LiesR w B (if c = f then A else A.map (·.add f)) (R.drop f) := by
  refine ⟨fun h0 => ?_, fun r hr => h.2 r (List.mem_of_mem_drop hr)⟩
  rw [List.length_drop] at h0
  obtain ⟨ad, rfl, hb, hcell⟩ := h.1 (by omega)
  rw [if_neg (by omega)]
  refine ⟨ad.add f, rfl, by rw [add_block]; exact hb, fun j hj => ?_⟩
  rw [List.length_drop] at hj
  rw [Addr.add_add, hcell (f + j) (by omega)]
  congr 2
  rw [List.getD_eq_getElem?_getD, List.getD_eq_getElem?_getD, List.getElem?_drop]
theorem Lies.at {w : World} {B : Nat} {A : Option Addr} {l : List Int} (h : Lies w B A l) {k : Nat} (hk : k < l.length) :
    ∃ ad : Addr, A = some ad ∧ ad.block < B ∧ w.cell? (ad.add k) = some (.int .i64 (l.getD k 0)) := by
  obtain ⟨ad, e, hb, hc⟩ := h (by omega)
  exact ⟨ad, e, hb, hc k hk⟩
end Go.Proofs.Ytkkeejbgaaodeaa
/-! Package vec: extremes, ends, Is, Parts. -/
namespace Go.Proofs.Ytkkeejbgaaodeaa
open Go.RowKit
set_option linter.unusedVariables false
set_option linter.unusedSimpArgs false

theorem min_if (x z : Int) : (if z < x then z else x) = min x z := by split <;> omega
theorem max_if (y z : Int) : (if y < z then z else y) = max y z := by split <;> omega
theorem add_zero' (a : Addr) : a.add 0 = a := by unfold Addr.add; simp
theorem vec_id (n : Int) (w : World) : Calls Try.prog 110 #[.int .i64 n] w fun e w' => e = .returned (.int .i64 n) ∧ w = w' := by
  go_enter Try.func110, Try.ntmps110
  go_wp2
  go_ret
  exact ⟨rfl, rfl⟩

set_option maxHeartbeats 1000000 in
theorem ext_int (A : Option Addr) (l : List Int) (c B : Nat) (lo hi : Int) (w : World) (hA : Lies w B A l) (hl : (l.length : Int) ≤ 9223372036854775807) :
    Calls Try.prog 109 #[.int .i64 lo, .int .i64 hi, .slice A l.length c, .func (.func 110) #[] #[]] w fun e w' => e = .returned (.tuple #[.int .i64 (loL lo l), .int .i64 (hiL hi l)]) ∧ w = w' := by
  have HA := Lib.hid hA
  clear hA
  generalize hN : l.length = N at *
  have HN := Lib.hid hN
  clear hN
  go_enter Try.func109, Try.ntmps109
  go_wp2
  go_loop [0, 1, 15] (fun a b i => ∃ (k : Nat) (x y : Int), k ≤ N ∧ i = .int .i64 k ∧ a = .int .i64 x ∧ b = .int .i64 y ∧ Hid (x = loL lo (l.take k)) ∧ Hid (y = hiL hi (l.take k))) (fun _ _ i => N - (intOf i).toNat)
  case atStart => exact ⟨0, _, _, by omega, rfl, rfl, rfl, rfl, rfl⟩
  case round =>
    obtain ⟨k, x, y, hk, rfl, rfl, rfl, HX, HY⟩ := hrel
    by_cases hlt : k < N
    · obtain ⟨ad, rfl, hadb, hcell⟩ := HA.out.at (k := k) (by have := HN.out; omega)
      have HL := Lib.hid (loL_take lo l (k := k) (by have := HN.out; omega))
      have HH := Lib.hid (hiL_take hi l (k := k) (by have := HN.out; omega))
      generalize l.getD k 0 = z at *
      go_wp2_with fail
      refine (vec_id z _).mono ?_
      rintro e w1 ⟨rfl, rfl⟩
      go_wp2
      go_round
      case rel => exact ⟨k + 1, _, _, by omega, by go_num, rfl, rfl, (by show _ = _; rw [HL.out, ← HX.out, ← min_if]), (by show _ = _; rw [HH.out, ← HY.out, ← max_if])⟩
      case measure => simp [intOf]; omega
    · obtain rfl : k = N := by omega
      go_wp2
      go_ret2
      have h1 : l.take k = l := List.take_of_length_le (by have := HN.out; omega)
      exact ⟨ret2i (HX.out.trans (by rw [h1])) (HY.out.trans (by rw [h1])), rfl⟩

set_option maxRecDepth 100000 in
set_option maxHeartbeats 1000000 in
theorem vec_ends (A : Option Addr) (l : List Int) (c B : Nat) (d : Int) (w : World) (hA : Lies w B A l) (hl : (l.length : Int) ≤ 9223372036854775807) (hc : l.length ≤ c) :
    Calls Try.prog 83 #[.slice A l.length c, .int .i64 d] w fun e w' => e = .returned (.tuple #[.int .i64 (endsL l d), .int .i64 (endsH l d), .bool (endsK l d)]) ∧ ∃ n, w' = w.drewN n := by
  cases hK : endsK l d with
  | false =>
    have hb : (decide (d < 1) || decide (8 < d) || decide ((l.length : Int) ≠ d)) = true := by
      unfold endsK at hK
      simp only [decide_eq_false_iff_not] at hK
      simp only [Bool.or_eq_true, decide_eq_true_eq]
      omega
    have h1 : endsL l d = 0 := by unfold endsL; rw [if_neg (by rw [hK]; simp)]
    have h2 : endsH l d = 0 := by unfold endsH; rw [if_neg (by rw [hK]; simp)]
    rw [h1, h2]
    clear hA hK h1 h2
    generalize l.length = N at *
    by_cases g1 : d < 1
    · go_enter Try.func83, Try.ntmps83
      go_wp2
      go_ret3
      exact ⟨rfl, 0, rfl⟩
    · by_cases g2 : 8 < d
      · go_enter Try.func83, Try.ntmps83
        go_wp2
        go_ret3
        exact ⟨rfl, 0, rfl⟩
      · have g3 : ((N : Int) != d) = true := by
          simp only [Bool.or_eq_true, decide_eq_true_eq] at hb
          simp; omega
        clear hb
        go_enter Try.func83, Try.ntmps83
        go_wp2
        go_ret3
        exact ⟨rfl, 0, rfl⟩
  | true =>
    obtain ⟨a, r, rfl, e1, e2⟩ := ends_cons hK
    obtain ⟨k1, k2, k3⟩ := endsK_iff.1 hK
    rw [e1, e2]
    obtain ⟨ad, rfl, hadb, hcell⟩ := hA.at (k := 0) (by simp)
    simp only [List.getD_cons_zero] at hcell
    have hcell' : w.cell? ad = some (.int .i64 a) := by rw [add_zero'] at hcell; exact hcell
    have hcut := lies_cut hA 1 (by simp) hc
    rw [List.drop_succ_cons, List.drop_zero] at hcut
    obtain ⟨M, hM⟩ : ∃ M, M = (a :: r).length := ⟨_, rfl⟩
    rw [← hM] at hc hl k3 ⊢
    subst k3
    have hr : r.length = M - 1 := by rw [hM]; rfl
    have K := Lib.hid (fun A W (h : Lies W B A r) => hr ▸ ext_int A r (c - 1) B a a W h (by omega))
    have g4 : (M : Int) ≤ (c : Int) := by omega
    have g5 : 0 < M := by omega
    have g6 : (1 : Int) ≤ M := by omega
    generalize loL a r = x at *
    generalize hiL a r = y at *
    by_cases h1 : c = 1
    · rw [if_pos h1] at hcut
      have HC := Lib.hid hcut
      clear hcut hA hK e1 e2 hr hM
      subst h1
      obtain rfl : M = 1 := by omega
      go_enter Try.func83, Try.ntmps83
      go_wp2
      go_quiet ((go_at_call 109; exact Calls.quiet_of_same (still_of (K.out _ _ HC.out))))
      go_wp2
      go_ret3
      exact ⟨rfl, _, rfl⟩
    · rw [if_neg h1] at hcut
      have HC := Lib.hid hcut
      clear hcut hA hK e1 e2 hr hM
      go_enter Try.func83, Try.ntmps83
      go_wp2
      go_quiet ((go_at_call 109; exact Calls.quiet_of_same (still_of (K.out _ _ HC.out))))
      go_wp2
      go_ret3
      exact ⟨rfl, _, rfl⟩
end Go.Proofs.Ytkkeejbgaaodeaa
/-! Package vec: Is, Parts, check, dot, Dot, gap, Gap, compared, Order, In. -/
namespace Go.Proofs.Ytkkeejbgaaodeaa
open Go.RowKit
set_option linter.unusedVariables false
set_option linter.unusedSimpArgs false

theorem dre2' (w : World) (a b : Nat) : ∃ n, (w.drewN a).drewN b = w.drewN n := ⟨_, World.drewN_drewN _ _ _⟩
theorem ret_bool {a b : Bool} (h : a = b) : Ending.returned (.bool a) = .returned (.bool b) := by rw [h]
set_option maxHeartbeats 1000000 in
theorem vec_is (A : Option Addr) (l : List Int) (c B : Nat) (d : Int) (w : World) (hA : Lies w B A l) (hl : (l.length : Int) ≤ 9223372036854775807) (hc : l.length ≤ c) :
    Calls Try.prog 53 #[.slice A l.length c, .int .i64 d] w fun e w' => e = .returned (.bool (isV l d)) ∧ ∃ n, w' = w.drewN n := by
  have K := Lib.hid (vec_ends A l c B d w hA hl hc)
  have HR := Lib.hid (isV_ends l d)
  generalize isV l d = R at *
  generalize endsL l d = L at *
  generalize endsH l d = H at *
  generalize endsK l d = b at *
  clear hA hc hl
  generalize l.length = N at *
  by_cases h1 : -2147483648 ≤ L <;> by_cases h2 : H ≤ 2147483647 <;> cases b
  all_goals
    go_enter Try.func53, Try.ntmps53
    go_wp2_with fail
    refine K.out.mono ?_
    rintro e w1 ⟨rfl, n, rfl⟩
    go_wp2
    go_ret
    exact ⟨ret_bool (by rw [HR.out]; simp [h1, h2]), n, rfl⟩
set_option maxHeartbeats 2000000 in
theorem vec_parts (A : Option Addr) (l : List Int) (c B : Nat) (d : Int) (w : World) (hA : Lies w B A l) (hl : (l.length : Int) ≤ 9223372036854775807) (hc : l.length ≤ c) :
    Calls Try.prog 90 #[.slice A l.length c, .int .i64 d] w fun e w' => e = .returned (.bool (partsV l d)) ∧ ∃ n, w' = w.drewN n := by
  have K := Lib.hid (vec_ends A l c B d w hA hl hc)
  have HR := Lib.hid (partsV_ends l d)
  generalize partsV l d = R at *
  generalize endsL l d = L at *
  generalize endsH l d = H at *
  generalize endsK l d = b at *
  clear hA hc hl
  generalize l.length = N at *
  by_cases h1 : -4 ≤ L <;> by_cases h2 : H ≤ 4 <;> by_cases h3 : L < 0 <;> by_cases h4 : 0 < H <;> cases b
  all_goals try (exfalso; omega)
  all_goals
    go_enter Try.func90, Try.ntmps90
    go_wp2_with fail
    refine K.out.mono ?_
    rintro e w1 ⟨rfl, n, rfl⟩
    go_wp2
    go_ret
    exact ⟨ret_bool (by rw [HR.out]; simp [h1, h2, h3, h4]), n, rfl⟩
theorem vec_compared (a b : Int) (w : World) :
    Calls Try.prog 92 #[.int .i64 a, .int .i64 b] w fun e w' => e = .returned (.int .i64 (if a < b then -1 else if b < a then 1 else 0)) ∧ w = w' := by
  go_enter Try.func92, Try.ntmps92
  go_wp2
  all_goals
    go_ret
    refine ⟨ret1i ?_, rfl⟩
    first | omega | (split <;> first | omega | (split <;> omega))

/-- all of a list of rows are vectors -/
def allV (R : List Row) (d : Int) : Bool := R.all fun r => isV r.l d
def chkV (R : List Row) (d : Int) : Int := if R.length = 0 then 80 else if allV R d then 0 else 80
/-- rows that came in: their capacities and numbers are as they may be -/
def OkR (R : List Row) : Prop := ∀ r ∈ R, r.l.length ≤ r.c ∧ (r.c : Int) ≤ 9223372036854775807 ∧ ∀ x ∈ r.l, I64 x
theorem allV_take {R : List Row} {d : Int} {k : Nat} (hk : k < R.length) : allV (R.take (k + 1)) d = (allV (R.take k) d && isV (R.getD k row0).l d) := by
  unfold allV
  rw [List.take_succ_eq_append_getElem hk, List.all_append]
  simp [List.getD, hk]
theorem allV_false {R : List Row} {d : Int} {k : Nat} (hk : k < R.length) (h : isV (R.getD k row0).l d = false) : allV R d = false := by
  unfold allV
  rw [Bool.eq_false_iff]
  intro g
  rw [List.all_eq_true] at g
  rw [g _ (getD_mem hk)] at h
  cases h
set_option maxHeartbeats 1000000 in
theorem vec_check (A : Option Addr) (R : List Row) (c B : Nat) (d : Int) (w : World) (hA : LiesR w B A R) (hR : OkR R) (hl : (R.length : Int) ≤ 9223372036854775807) :
    Calls Try.prog 98 #[.slice A R.length c, .int .i64 d] w fun e w' => e = .returned (.int .i64 (chkV R d)) ∧ ∃ n, w' = w.drewN n := by
  have HA := Lib.hid hA
  have HR := Lib.hid hR
  have HC : Hid (chkV R d = if R.length = 0 then 80 else if allV R d then 0 else 80) := rfl
  generalize chkV R d = C at *
  clear hA hR
  generalize hN : R.length = N at *
  have HN := Lib.hid hN
  clear hN
  by_cases h0 : N = 0
  · subst h0
    go_enter Try.func98, Try.ntmps98
    go_wp2
    go_ret
    exact ⟨ret1i (HC.out.trans (if_pos trivial)).symm, 0, rfl⟩
  · rw [if_neg h0] at HC
    have h0' : ((N : Int) == 0) = false := by simp; omega
    clear h0
    go_enter Try.func98, Try.ntmps98
    go_wp2
    go_loopw [12] (fun i wr => ∃ k : Nat, k ≤ N ∧ i = .int .i64 k ∧ Hid (allV (R.take k) d = true) ∧ Hid (∃ n, wr = w.drewN n)) (fun i _ => N - (intOf i).toNat)
    case atStart => exact ⟨0, by omega, rfl, rfl, ⟨0, rfl⟩⟩
    case round =>
      obtain ⟨k, hk, rfl, HT, HW⟩ := hrel
      by_cases hlt : k < N
      · have HAr : Hid (LiesR wr B A R) := by obtain ⟨n, hn⟩ := HW.out; show LiesR _ _ _ _; rw [hn]; exact HA.out
        obtain ⟨ad, rfl, _, hcell, hlies⟩ := HAr.out.at (k := k) (by have := HN.out; omega)
        obtain ⟨g1, g2, g3⟩ := HR.out _ (getD_mem (R := R) (k := k) (by have := HN.out; omega))
        have K := Lib.hid (vec_is _ _ _ B d wr hlies (by omega) g1)
        have HS := Lib.hid (allV_take (R := R) (d := d) (k := k) (by have := HN.out; omega))
        have HF := Lib.hid (allV_false (R := R) (d := d) (k := k) (by have := HN.out; omega))
        clear hlies g1 g2 g3
        generalize R.getD k row0 = r at *
        obtain ⟨ra, rl, rc⟩ := r
        simp only at hcell K HS HF
        generalize hv : isV rl d = v at *
        have HV := Lib.hid hv
        clear hv
        generalize rl.length = M at *
        cases v
        · go_wp2_with fail
          refine K.out.mono ?_
          rintro e w1 ⟨rfl, n, rfl⟩
          go_wp2
          go_ret
          refine ⟨ret1i ?_, ?_⟩
          · rw [HC.out, HF.out trivial]; rfl
          · obtain ⟨m, hm⟩ := HW.out
            rw [hm]; exact dre2' _ _ _
        · go_wp2_with fail
          refine K.out.mono ?_
          rintro e w1 ⟨rfl, n, rfl⟩
          go_wp2
          refine ⟨⟨k + 1, by omega, by go_num, ?_, ?_⟩, by first | (simp [intOf]; done) | (simp [intOf]; omega)⟩
          · show _ = _
            rw [HS.out, HT.out]; rfl
          · obtain ⟨m, hm⟩ := HW.out
            show ∃ _, _
            rw [hm]; exact dre2' _ _ _
      · obtain rfl : k = N := by omega
        go_wp2
        go_ret
        refine ⟨ret1i ?_, HW.out⟩
        have h1 := HT.out
        rw [List.take_of_length_le (by have := HN.out; omega)] at h1
        rw [HC.out, h1]; rfl
end Go.Proofs.Ytkkeejbgaaodeaa
/-! Package vec: dot, Dot, gap, Gap, Order, In. -/
namespace Go.Proofs.Ytkkeejbgaaodeaa
open Go.RowKit
set_option linter.unusedVariables false
set_option linter.unusedSimpArgs false

theorem dre3' (w : World) (a b c : Nat) : ∃ n, ((w.drewN a).drewN b).drewN c = w.drewN n := by
  obtain ⟨n, h⟩ := dre2' w a b
  rw [h]; exact dre2' _ _ _
def okC (x : Int) : Prop := -4 ≤ x ∧ x ≤ 4
theorem mul_okC {x y : Int} (hx : okC x) (hy : okN y) : -8589934592 ≤ x * y ∧ x * y ≤ 8589934592 := by
  unfold okC at hx; unfold okN at hy
  have h : x = -4 ∨ x = -3 ∨ x = -2 ∨ x = -1 ∨ x = 0 ∨ x = 1 ∨ x = 2 ∨ x = 3 ∨ x = 4 := by omega
  rcases h with rfl | rfl | rfl | rfl | rfl | rfl | rfl | rfl | rfl <;> omega
theorem getD_okC {l : List Int} (h : ∀ x ∈ l, okC x) (k : Nat) : okC (l.getD k 0) := by
  rcases Nat.lt_or_ge k l.length with g | g
  · rw [List.getD_eq_getElem?_getD, List.getElem?_eq_getElem g]; exact h _ (List.getElem_mem g)
  · rw [List.getD_eq_getElem?_getD, List.getElem?_eq_none g]; unfold okC; simp
theorem getD_okN {l : List Int} (h : ∀ x ∈ l, okN x) (k : Nat) : okN (l.getD k 0) := by
  rcases Nat.lt_or_ge k l.length with g | g
  · rw [List.getD_eq_getElem?_getD, List.getElem?_eq_getElem g]; exact h _ (List.getElem_mem g)
  · rw [List.getD_eq_getElem?_getD, List.getElem?_eq_none g]; unfold okN; simp
theorem dotI_v {c v : List Int} (hc : ∀ x ∈ c, okC x) (hv : ∀ x ∈ v, okN x) (k : Nat) : -(8589934592 * (k : Int)) ≤ dotI c v k ∧ dotI c v k ≤ 8589934592 * k := by
  induction k with
  | zero => simp [dotI]
  | succ k ih =>
    have h := mul_okC (getD_okC hc k) (getD_okN hv k)
    simp only [dotI]
    omega
set_option maxHeartbeats 1000000 in
theorem vec_dot (A A2 : Option Addr) (a b : List Int) (c c2 B : Nat) (w : World) (hA : Lies w B A a) (hA2 : Lies w B A2 b) (ha : ∀ x ∈ a, okC x) (hb : ∀ x ∈ b, okN x) (hl : b.length = a.length) (hn : a.length ≤ 8) :
    Calls Try.prog 99 #[.slice A a.length c, .slice A2 b.length c2] w fun e w' => e = .returned (.int .i64 (dotI a b a.length)) ∧ w = w' := by
  rw [hl]
  have HA := Lib.hid hA
  have HA2 := Lib.hid hA2
  have HC := Lib.hid (getD_okC ha)
  have HO := Lib.hid (getD_okN hb)
  have HD := Lib.hid (dotI_v ha hb)
  have HL := Lib.hid hl
  clear hA hA2 hl ha hb
  generalize hN : a.length = N at *
  have HN := Lib.hid hN
  clear hN
  go_enter Try.func99, Try.ntmps99
  go_wp2
  go_loop [5, 10] (fun s i => ∃ k : Nat, k ≤ N ∧ i = .int .i64 k ∧ s = .int .i64 (dotI a b k)) (fun _ i => N - (intOf i).toNat)
  case atStart => exact ⟨0, by omega, rfl, rfl⟩
  case round =>
    obtain ⟨k, hk, rfl, rfl⟩ := hrel
    by_cases hlt : k < N
    · obtain ⟨ad, rfl, _, hc1⟩ := HA.out.at (k := k) (by have := HN.out; omega)
      obtain ⟨ad2, rfl, _, hc2⟩ := HA2.out.at (k := k) (by have := HN.out; have := HL.out; omega)
      have hm := mul_okC (HC.out k) (HO.out k)
      have hd := HD.out k
      have HS : Hid (dotI a b (k + 1) = dotI a b k + a.getD k 0 * b.getD k 0) := rfl
      obtain ⟨hm1, hm2⟩ := hm
      obtain ⟨hd1, hd2⟩ := hd
      generalize a.getD k 0 = x at *
      generalize b.getD k 0 = y at *
      generalize dotI a b k = z at *
      go_wp2
      go_round
      case rel => exact ⟨k + 1, by omega, by go_num, by rw [HS.out]⟩
      case measure => simp [intOf]; omega
    · obtain rfl : k = N := by omega
      go_wp2
      go_ret
      exact ⟨rfl, rfl⟩
/-- what Dot tells -/
def dotE (a b : List Int) : Bool := partsV a a.length && isV b a.length
def dotN (a b : List Int) : Int := if dotE a b then dotI a b a.length else 0
def dotC (a b : List Int) : Int := if dotE a b then 0 else 80
theorem dotE_iff {a b : List Int} : dotE a b = true ↔ partsV a a.length = true ∧ isV b a.length = true := by unfold dotE; simp
theorem dotE_ok {a b : List Int} (h : dotE a b = true) : (∀ x ∈ a, okC x) ∧ (∀ x ∈ b, okN x) ∧ b.length = a.length ∧ a.length ≤ 8 := by
  obtain ⟨h1, h2⟩ := dotE_iff.1 h
  obtain ⟨_, g1, _, g2, _⟩ := partsV_iff.1 h1
  obtain ⟨_, _, g3, g4⟩ := isV_iff.1 h2
  exact ⟨g2, g4, by omega, by omega⟩
set_option maxHeartbeats 1000000 in
theorem vec_Dot (A A2 : Option Addr) (a b : List Int) (c c2 B : Nat) (w : World) (hA : Lies w B A a) (hA2 : Lies w B A2 b) (hla : (a.length : Int) ≤ 9223372036854775807) (hlb : (b.length : Int) ≤ 9223372036854775807) (hca : a.length ≤ c) (hcb : b.length ≤ c2) :
    Calls Try.prog 84 #[.slice A a.length c, .slice A2 b.length c2] w fun e w' => e = .returned (.tuple #[.int .i64 (dotN a b), .int .i64 (dotC a b)]) ∧ ∃ n, w' = w.drewN n := by
  have K1 := Lib.hid (vec_parts A a c B a.length w hA hla hca)
  have K2 := Lib.hid (fun n => vec_is A2 b c2 B a.length (w.drewN n) hA2 hlb hcb)
  have HN : Hid (dotN a b = if dotE a b then dotI a b a.length else 0) := rfl
  have HC : Hid (dotC a b = if dotE a b then 0 else 80) := rfl
  have HE : Hid (dotE a b = (partsV a a.length && isV b a.length)) := rfl
  have HK := Lib.hid (fun (h : dotE a b = true) n => vec_dot A A2 a b c c2 B (w.drewN n) hA hA2 (dotE_ok h).1 (dotE_ok h).2.1 (dotE_ok h).2.2.1 (dotE_ok h).2.2.2)
  generalize dotN a b = n at *
  generalize dotC a b = m at *
  generalize dotE a b = q at *
  generalize dotI a b a.length = z at *
  generalize partsV a a.length = p1 at *
  generalize isV b a.length = p2 at *
  clear hA hA2 hca hcb
  generalize a.length = N at *
  generalize b.length = M at *
  cases p1 <;> cases p2
  all_goals
    first
    | (go_enter Try.func84, Try.ntmps84
       go_wp2_with fail
       refine K1.out.mono ?_
       rintro e w1 ⟨rfl, n1, rfl⟩
       go_wp2
       go_ret2
       exact ⟨ret2i (by rw [HN.out, HE.out]; rfl) (by rw [HC.out, HE.out]; rfl), n1, rfl⟩)
    | (go_enter Try.func84, Try.ntmps84
       go_wp2_with fail
       refine K1.out.mono ?_
       rintro e w1 ⟨rfl, n1, rfl⟩
       go_wp2_with fail
       refine (K2.out _).mono ?_
       rintro e w1 ⟨rfl, n2, rfl⟩
       go_wp2
       go_ret2
       exact ⟨ret2i (by rw [HN.out, HE.out]; rfl) (by rw [HC.out, HE.out]; rfl), _, rfl⟩)
    | (go_enter Try.func84, Try.ntmps84
       go_wp2_with fail
       refine K1.out.mono ?_
       rintro e w1 ⟨rfl, n1, rfl⟩
       go_wp2_with fail
       refine (K2.out _).mono ?_
       rintro e w1 ⟨rfl, n2, rfl⟩
       go_wp2_with fail
       refine (HK.out HE.out _).mono ?_
       rintro e w1 ⟨rfl, rfl⟩
       go_wp2
       go_ret2
       exact ⟨ret2i (by rw [HN.out, HE.out]; rfl) (by rw [HC.out, HE.out]; rfl), _, rfl⟩)
def gapNN (a b : List Int) : Int := if gapE a b then gapI a b a.length else 0
def gapCC (a b : List Int) : Int := if gapE a b then 0 else 80
theorem gapE_ok {a b : List Int} (h : gapE a b = true) : (∀ x ∈ a, okN x) ∧ (∀ x ∈ b, okN x) ∧ b.length = a.length ∧ a.length ≤ 8 := by
  obtain ⟨h1, h2⟩ := gapE_iff.1 h
  obtain ⟨_, g1, _, g2⟩ := isV_iff.1 h1
  obtain ⟨_, _, g3, g4⟩ := isV_iff.1 h2
  exact ⟨g2, g4, by omega, by omega⟩
set_option maxHeartbeats 1000000 in
theorem vec_Order (A A2 : Option Addr) (a b : List Int) (c c2 B : Nat) (w : World) (hA : Lies w B A a) (hA2 : Lies w B A2 b) (hla : (a.length : Int) ≤ 9223372036854775807) (hlb : (b.length : Int) ≤ 9223372036854775807) :
    Calls Try.prog 70 #[.slice A a.length c, .slice A2 b.length c2] w fun e w' => e = .returned (.int .i64 (ordL a b)) ∧ ∃ n, w' = w.drewN n := by
  have HA := Lib.hid hA
  have HA2 := Lib.hid hA2
  have HAT := Lib.hid (fun k h g e => ord_at (a := a) (b := b) (k := k) h g e)
  have HEN := Lib.hid (ord_end (a := a) (b := b))
  generalize ordL a b = R at *
  clear hA hA2
  generalize hN : a.length = N at *
  generalize hM : b.length = M at *
  have HN := Lib.hid hN
  have HM := Lib.hid hM
  clear hN hM
  rcases Nat.lt_or_ge M N with hc | hc
  · go_enter Try.func70, Try.ntmps70
    go_wp2
    go_loopw [12] (fun i wr => ∃ k : Nat, k ≤ M ∧ i = .int .i64 k ∧ Hid (∀ j, j < k → a.getD j 0 = b.getD j 0) ∧ Hid (∃ n, wr = w.drewN n)) (fun i _ => M - (intOf i).toNat)
    case atStart => exact ⟨0, by omega, rfl, fun j hj => absurd hj (by omega), ⟨0, rfl⟩⟩
    case round =>
      obtain ⟨k, hk, rfl, HE, HW⟩ := hrel
      by_cases hlt : k < M
      · have HAr : Hid (Lies wr B A a) := by obtain ⟨n, hn⟩ := HW.out; show Lies _ _ _ _; rw [hn]; exact HA.out
        have HAr2 : Hid (Lies wr B A2 b) := by obtain ⟨n, hn⟩ := HW.out; show Lies _ _ _ _; rw [hn]; exact HA2.out
        obtain ⟨ad, rfl, _, hc1⟩ := HAr.out.at (k := k) (by have := HN.out; omega)
        obtain ⟨ad2, rfl, _, hc2⟩ := HAr2.out.at (k := k) (by have := HM.out; omega)
        have HS := Lib.hid (HAT.out k (by omega) (by omega) HE.out)
        have HX : Hid (a.getD k 0 = b.getD k 0 → ∀ j, j < k + 1 → a.getD j 0 = b.getD j 0) := fun h j hj => by
          rcases Nat.lt_or_ge j k with g | g
          · exact HE.out j g
          · rw [show j = k from by omega]; exact h
        generalize a.getD k 0 = x at *
        generalize b.getD k 0 = y at *
        have hji : (k : Int) < (N : Int) := by omega
        have hji2 : (k : Int) < (M : Int) := by omega
        have KC := Lib.hid (vec_compared x y)
        by_cases hxy : x = y
        · subst hxy
          rw [if_neg (by omega), if_neg (by omega)] at KC
          go_wp2
          go_quiet ((go_at_call 92; exact Calls.quiet_of_same (still_of (KC.out _))))
          go_wp2
          refine ⟨⟨k + 1, by omega, by go_num, HX.out trivial, (by obtain ⟨m, hm⟩ := HW.out; show ∃ _, _; rw [hm]; exact dre2' _ _ _)⟩, by first | (simp [intOf]; done) | (simp [intOf]; omega)⟩
        · have hcc : ∃ v : Int, (if x < y then (-1 : Int) else if y < x then 1 else 0) = v ∧ (v != 0) = true := by
            refine ⟨_, rfl, ?_⟩
            by_cases g : x < y
            · rw [if_pos g]; rfl
            · rw [if_neg g, if_pos (by omega)]; rfl
          obtain ⟨v, hv, hv0⟩ := hcc
          rw [hv] at KC
          have HR : Hid (R = v) := by
            show _ = _
            rw [HS.out, ← hv]
            by_cases g : x < y
            · rw [if_pos g, if_pos g]
            · rw [if_neg g, if_neg g, if_pos (by omega), if_pos (by omega)]
          clear hv
          go_wp2
          go_quiet ((go_at_call 92; exact Calls.quiet_of_same (still_of (KC.out _))))
          go_wp2
          go_ret
          exact ⟨ret1i HR.out.symm, (by obtain ⟨m, hm⟩ := HW.out; rw [hm]; exact dre2' _ _ _)⟩
      · obtain rfl : k = M := by omega
        have HR := Lib.hid (HEN.out (fun j h1 h2 => HE.out j (by omega)))
        have KC := Lib.hid (vec_compared N k)
        rw [← HR.out] at KC
        go_wp2_with fail
        refine (KC.out _).mono ?_
        rintro e w1 ⟨rfl, rfl⟩
        go_wp2
        go_ret
        exact ⟨rfl, HW.out⟩
  · go_enter Try.func70, Try.ntmps70
    go_wp2
    go_loopw [12] (fun i wr => ∃ k : Nat, k ≤ N ∧ i = .int .i64 k ∧ Hid (∀ j, j < k → a.getD j 0 = b.getD j 0) ∧ Hid (∃ n, wr = w.drewN n)) (fun i _ => N - (intOf i).toNat)
    case atStart => exact ⟨0, by omega, rfl, fun j hj => absurd hj (by omega), ⟨0, rfl⟩⟩
    case round =>
      obtain ⟨k, hk, rfl, HE, HW⟩ := hrel
      by_cases hlt : k < N
      · have HAr : Hid (Lies wr B A a) := by obtain ⟨n, hn⟩ := HW.out; show Lies _ _ _ _; rw [hn]; exact HA.out
        have HAr2 : Hid (Lies wr B A2 b) := by obtain ⟨n, hn⟩ := HW.out; show Lies _ _ _ _; rw [hn]; exact HA2.out
        obtain ⟨ad, rfl, _, hc1⟩ := HAr.out.at (k := k) (by have := HN.out; omega)
        obtain ⟨ad2, rfl, _, hc2⟩ := HAr2.out.at (k := k) (by have := HM.out; omega)
        have HS := Lib.hid (HAT.out k (by omega) (by omega) HE.out)
        have HX : Hid (a.getD k 0 = b.getD k 0 → ∀ j, j < k + 1 → a.getD j 0 = b.getD j 0) := fun h j hj => by
          rcases Nat.lt_or_ge j k with g | g
          · exact HE.out j g
          · rw [show j = k from by omega]; exact h
        generalize a.getD k 0 = x at *
        generalize b.getD k 0 = y at *
        have hji : (k : Int) < (N : Int) := by omega
        have hji2 : (k : Int) < (M : Int) := by omega
        have KC := Lib.hid (vec_compared x y)
        by_cases hxy : x = y
        · subst hxy
          rw [if_neg (by omega), if_neg (by omega)] at KC
          go_wp2
          go_quiet ((go_at_call 92; exact Calls.quiet_of_same (still_of (KC.out _))))
          go_wp2
          refine ⟨⟨k + 1, by omega, by go_num, HX.out trivial, (by obtain ⟨m, hm⟩ := HW.out; show ∃ _, _; rw [hm]; exact dre2' _ _ _)⟩, by first | (simp [intOf]; done) | (simp [intOf]; omega)⟩
        · have hcc : ∃ v : Int, (if x < y then (-1 : Int) else if y < x then 1 else 0) = v ∧ (v != 0) = true := by
            refine ⟨_, rfl, ?_⟩
            by_cases g : x < y
            · rw [if_pos g]; rfl
            · rw [if_neg g, if_pos (by omega)]; rfl
          obtain ⟨v, hv, hv0⟩ := hcc
          rw [hv] at KC
          have HR : Hid (R = v) := by
            show _ = _
            rw [HS.out, ← hv]
            by_cases g : x < y
            · rw [if_pos g, if_pos g]
            · rw [if_neg g, if_neg g, if_pos (by omega), if_pos (by omega)]
          clear hv
          go_wp2
          go_quiet ((go_at_call 92; exact Calls.quiet_of_same (still_of (KC.out _))))
          go_wp2
          go_ret
          exact ⟨ret1i HR.out.symm, (by obtain ⟨m, hm⟩ := HW.out; rw [hm]; exact dre2' _ _ _)⟩
      · obtain rfl : k = N := by omega
        have HR := Lib.hid (HEN.out (fun j h1 h2 => HE.out j (by omega)))
        have KC := Lib.hid (vec_compared k M)
        rw [← HR.out] at KC
        go_wp2_with fail
        refine (KC.out _).mono ?_
        rintro e w1 ⟨rfl, rfl⟩
        go_wp2
        go_ret
        exact ⟨rfl, HW.out⟩
end Go.Proofs.Ytkkeejbgaaodeaa
/-! Package vec: In; the reference's Same, Is, Parts. -/
namespace Go.Proofs.Ytkkeejbgaaodeaa
open Go.RowKit
set_option linter.unusedVariables false
set_option linter.unusedSimpArgs false

/-- whether v is nowhere below lo or above hi -/
def inV (lo hi v : List Int) : Bool := decide (lo.length = v.length ∧ hi.length = v.length ∧ ∀ j, j < v.length → lo.getD j 0 ≤ v.getD j 0 ∧ v.getD j 0 ≤ hi.getD j 0)
theorem inV_iff {lo hi v : List Int} : inV lo hi v = true ↔ lo.length = v.length ∧ hi.length = v.length ∧ ∀ j, j < v.length → lo.getD j 0 ≤ v.getD j 0 ∧ v.getD j 0 ≤ hi.getD j 0 := by unfold inV; exact decide_eq_true_iff
theorem inV_no {lo hi v : List Int} {k : Nat} (hk : k < v.length) (h : ¬ (lo.getD k 0 ≤ v.getD k 0 ∧ v.getD k 0 ≤ hi.getD k 0)) : inV lo hi v = false := by
  rw [Bool.eq_false_iff]; intro g; exact h ((inV_iff.1 g).2.2 k hk)
theorem inV_len {lo hi v : List Int} (h : ¬ (lo.length = v.length ∧ hi.length = v.length)) : inV lo hi v = false := by
  rw [Bool.eq_false_iff]; intro g; exact h ⟨(inV_iff.1 g).1, (inV_iff.1 g).2.1⟩
/-! ### the reference's -/
set_option maxHeartbeats 1000000 in
theorem ref_same1 (A A2 : Option Addr) (l m : List Int) (c c2 B : Nat) (w : World) (hA : Lies w B A l) (hA2 : Lies w B A2 m) (hl : (l.length : Int) ≤ 9223372036854775807) (hm : (m.length : Int) ≤ 9223372036854775807) :
    Calls Try.prog 32 #[.slice A l.length c, .slice A2 m.length c2] w fun e w' => e = .returned (.bool (decide (l = m))) ∧ ∃ n, w' = w.drewN n := by
  by_cases hlen : l.length = m.length
  · have HL := Lib.hid hlen
    rw [← hlen]
    have HA := Lib.hid hA
    have HA2 := Lib.hid hA2
    have HYES : Hid ((∀ j, j < l.length → l.getD j 0 = m.getD j 0) → decide (l = m) = true) := fun h => decide_eq_true (ext_getD hlen h)
    have HNO : Hid (∀ k : Nat, l.getD k 0 ≠ m.getD k 0 → decide (l = m) = false) := fun k h => decide_eq_false (fun e => h (by rw [e]))
    generalize decide (l = m) = R at *
    clear hA hA2 hlen
    generalize hN : l.length = N at *
    have HN := Lib.hid hN
    clear hN
    go_enter Try.func32, Try.ntmps32
    go_wp2
    go_loopw [5] (fun i wr => ∃ k : Nat, k ≤ N ∧ i = .int .i64 k ∧ Hid (∀ j, j < k → l.getD j 0 = m.getD j 0) ∧ Hid (∃ n, wr = w.drewN n)) (fun i _ => N - (intOf i).toNat)
    case atStart => exact ⟨0, by omega, rfl, fun j hj => absurd hj (by omega), ⟨0, rfl⟩⟩
    case round =>
      obtain ⟨k, hk, rfl, HE, HW⟩ := hrel
      by_cases hlt : k < N
      · have HAr : Hid (Lies wr B A l) := by obtain ⟨n, hn⟩ := HW.out; show Lies _ _ _ _; rw [hn]; exact HA.out
        have HAr2 : Hid (Lies wr B A2 m) := by obtain ⟨n, hn⟩ := HW.out; show Lies _ _ _ _; rw [hn]; exact HA2.out
        obtain ⟨ad, rfl, _, hc1⟩ := HAr.out.at (k := k) (by have := HN.out; omega)
        obtain ⟨ad2, rfl, _, hc2⟩ := HAr2.out.at (k := k) (by have := HL.out; have := HN.out; omega)
        have HX : Hid (l.getD k 0 = m.getD k 0 → ∀ j, j < k + 1 → l.getD j 0 = m.getD j 0) := fun h j hj => by
          rcases Nat.lt_or_ge j k with g | g
          · exact HE.out j g
          · rw [show j = k from by omega]; exact h
        have HF := Lib.hid (HNO.out k)
        generalize l.getD k 0 = x at *
        generalize m.getD k 0 = y at *
        have hji : (k : Int) < (N : Int) := by omega
        by_cases hxy : x = y
        · subst hxy
          have HR := Lib.hid (HX.out rfl)
          clear HF HX
          go_wp2
          go_quiet (fail)
          go_wp2
          exact ⟨⟨k + 1, by omega, by go_num, HR.out, (by obtain ⟨m, hm⟩ := HW.out; show ∃ _, _; rw [hm]; exact dre2' _ _ _)⟩, by first | (simp [intOf]; done) | (simp [intOf]; omega)⟩
        · have hne : (x != y) = true := by simpa using hxy
          have HR := Lib.hid (HF.out hxy)
          clear HF HX
          go_wp2
          go_quiet (fail)
          go_wp2
          go_ret
          exact ⟨ret_bool HR.out.symm, (by obtain ⟨m, hm⟩ := HW.out; rw [hm]; exact dre2' _ _ _)⟩
      · obtain rfl : k = N := by omega
        go_wp2
        go_ret
        exact ⟨ret_bool (HYES.out HE.out).symm, HW.out⟩
  · have hR : decide (l = m) = false := decide_eq_false (fun e => hlen (by rw [e]))
    rw [hR]
    clear hA hA2 hR
    generalize l.length = N at *
    generalize m.length = M at *
    have hne : ((N : Int) != (M : Int)) = true := by simp; omega
    clear hlen
    go_enter Try.func32, Try.ntmps32
    go_wp2
    go_ret
    exact ⟨rfl, 0, rfl⟩
end Go.Proofs.Ytkkeejbgaaodeaa
/-! The reference of layer 8: Is, Parts, Dot, Gap, Order. -/
namespace Go.Proofs.Ytkkeejbgaaodeaa
open Go.RowKit
set_option linter.unusedVariables false
set_option linter.unusedSimpArgs false

theorem isV_no {v : List Int} {d : Int} (h : ¬ (1 ≤ d ∧ d ≤ 8 ∧ (v.length : Int) = d)) : isV v d = false := by
  rw [Bool.eq_false_iff]; intro g; obtain ⟨h1, h2, h3, _⟩ := isV_iff.1 g; exact h ⟨h1, h2, h3⟩
theorem partsV_no {v : List Int} {d : Int} (h : ¬ (1 ≤ d ∧ d ≤ 8 ∧ (v.length : Int) = d)) : partsV v d = false := by
  rw [Bool.eq_false_iff]; intro g; obtain ⟨h1, h2, h3, _⟩ := partsV_iff.1 g; exact h ⟨h1, h2, h3⟩
theorem mem_getD {l : List Int} {k : Nat} (h : k < l.length) : l.getD k 0 ∈ l := by
  rw [List.getD_eq_getElem?_getD, List.getElem?_eq_getElem h]; exact List.getElem_mem h
theorem all_getD {l : List Int} {P : Int → Prop} (h : ∀ j, j < l.length → P (l.getD j 0)) : ∀ x ∈ l, P x := fun x hx => by
  obtain ⟨j, hj, rfl⟩ := List.mem_iff_getElem.1 hx
  have := h j hj
  rw [List.getD_eq_getElem?_getD, List.getElem?_eq_getElem hj] at this
  exact this
theorem ref_is_no (A : Option Addr) (N c : Nat) (d : Int) (w : World) (h : ¬ (1 ≤ d ∧ d ≤ 8 ∧ (N : Int) = d)) :
    Calls Try.prog 55 #[.slice A N c, .int .i64 d] w fun e w' => e = .returned (.bool false) ∧ w = w' := by
  by_cases g1 : d < 1
  · clear h
    go_enter Try.func55, Try.ntmps55
    go_wp2
    go_ret
    exact ⟨rfl, rfl⟩
  · by_cases g2 : 8 < d
    · clear h
      go_enter Try.func55, Try.ntmps55
      go_wp2
      go_ret
      exact ⟨rfl, rfl⟩
    · have g3 : ((N : Int) != d) = true := by simp; omega
      clear h
      go_enter Try.func55, Try.ntmps55
      go_wp2
      go_ret
      exact ⟨rfl, rfl⟩
set_option maxHeartbeats 1000000 in
theorem ref_is (A : Option Addr) (l : List Int) (c B : Nat) (d : Int) (w : World) (hA : Lies w B A l) :
    Calls Try.prog 55 #[.slice A l.length c, .int .i64 d] w fun e w' => e = .returned (.bool (isV l d)) ∧ w = w' := by
  by_cases h : 1 ≤ d ∧ d ≤ 8 ∧ (l.length : Int) = d
  · obtain ⟨h1, h2, rfl⟩ := h
    have HA := Lib.hid hA
    have HYES : Hid ((∀ j, j < l.length → okN (l.getD j 0)) → isV l l.length = true) := fun h => isV_iff.2 ⟨h1, h2, rfl, all_getD (P := okN) h⟩
    have HNO : Hid (∀ k, k < l.length → ¬ okN (l.getD k 0) → isV l l.length = false) := fun k hk h => by
      rw [Bool.eq_false_iff]; intro g; exact h ((isV_iff.1 g).2.2.2 _ (mem_getD hk))
    generalize isV l l.length = R at *
    clear hA
    generalize hN : l.length = N at *
    have HN := Lib.hid hN
    clear hN
    go_enter Try.func55, Try.ntmps55
    go_wp2
    go_loop [5] (fun i => ∃ k : Nat, k ≤ N ∧ i = .int .i64 k ∧ Hid (∀ j, j < k → okN (l.getD j 0))) (fun i => N - (intOf i).toNat)
    case atStart => exact ⟨0, by omega, rfl, fun j hj => absurd hj (by omega)⟩
    case round =>
      obtain ⟨k, hk, rfl, HE⟩ := hrel
      by_cases hlt : k < N
      · obtain ⟨ad, rfl, _, hc1⟩ := HA.out.at (k := k) (by have := HN.out; omega)
        have HX : Hid (okN (l.getD k 0) → ∀ j, j < k + 1 → okN (l.getD j 0)) := fun h j hj => by
          rcases Nat.lt_or_ge j k with g | g
          · exact HE.out j g
          · rw [show j = k from by omega]; exact h
        have HF := Lib.hid (HNO.out k hlt)
        generalize l.getD k 0 = x at *
        by_cases g1 : x < -2147483648
        · have HR := Lib.hid (HF.out (by unfold okN; omega))
          go_wp2
          go_ret
          exact ⟨ret_bool HR.out.symm, rfl⟩
        · by_cases g2 : 2147483647 < x
          · have HR := Lib.hid (HF.out (by unfold okN; omega))
            go_wp2
            go_ret
            exact ⟨ret_bool HR.out.symm, rfl⟩
          · have HR := Lib.hid (HX.out (by unfold okN; omega))
            go_wp2
            go_round
            case rel => exact ⟨k + 1, by omega, by go_num, HR.out⟩
            case measure => simp [intOf]; omega
      · obtain rfl : k = N := by omega
        go_wp2
        go_ret
        exact ⟨ret_bool (HYES.out HE.out).symm, rfl⟩
  · rw [isV_no h]
    exact ref_is_no A l.length c d w h
theorem ref_parts_no (A : Option Addr) (N c : Nat) (d : Int) (w : World) (h : ¬ (1 ≤ d ∧ d ≤ 8 ∧ (N : Int) = d)) :
    Calls Try.prog 91 #[.slice A N c, .int .i64 d] w fun e w' => e = .returned (.bool false) ∧ w = w' := by
  by_cases g1 : d < 1
  · clear h
    go_enter Try.func91, Try.ntmps91
    go_wp2
    go_ret
    exact ⟨rfl, rfl⟩
  · by_cases g2 : 8 < d
    · clear h
      go_enter Try.func91, Try.ntmps91
      go_wp2
      go_ret
      exact ⟨rfl, rfl⟩
    · have g3 : ((N : Int) != d) = true := by simp; omega
      clear h
      go_enter Try.func91, Try.ntmps91
      go_wp2
      go_ret
      exact ⟨rfl, rfl⟩
/-- some of the first k is not 0 -/
def someK (l : List Int) : Nat → Bool
  | 0 => false
  | k + 1 => someK l k || (l.getD k 0 != 0)
theorem someK_iff (l : List Int) (k : Nat) : someK l k = true ↔ ∃ j, j < k ∧ l.getD j 0 ≠ 0 := by
  induction k with
  | zero => simp [someK]
  | succ k ih =>
    simp only [someK, Bool.or_eq_true, ih, bne_iff_ne]
    constructor
    · rintro (⟨j, h1, h2⟩ | h)
      · exact ⟨j, by omega, h2⟩
      · exact ⟨k, by omega, h⟩
    · rintro ⟨j, h1, h2⟩
      rcases Nat.lt_or_ge j k with g | g
      · exact .inl ⟨j, g, h2⟩
      · right; rw [show k = j from by omega]; exact h2
set_option maxHeartbeats 1000000 in
theorem ref_parts (A : Option Addr) (l : List Int) (c B : Nat) (d : Int) (w : World) (hA : Lies w B A l) :
    Calls Try.prog 91 #[.slice A l.length c, .int .i64 d] w fun e w' => e = .returned (.bool (partsV l d)) ∧ w = w' := by
  by_cases h : 1 ≤ d ∧ d ≤ 8 ∧ (l.length : Int) = d
  · obtain ⟨h1, h2, rfl⟩ := h
    have HA := Lib.hid hA
    have HYES : Hid ((∀ j, j < l.length → okC (l.getD j 0)) → someK l l.length = partsV l l.length) := fun h => by
      show _ = _
      rw [Bool.eq_iff_iff, someK_iff, partsV_iff]
      constructor
      · rintro ⟨j, g1, g2⟩
        exact ⟨h1, h2, rfl, all_getD (P := okC) h, _, mem_getD g1, g2⟩
      · rintro ⟨_, _, _, _, x, hx, hx0⟩
        obtain ⟨j, hj, rfl⟩ := List.mem_iff_getElem.1 hx
        exact ⟨j, hj, by rw [List.getD_eq_getElem?_getD, List.getElem?_eq_getElem hj]; exact hx0⟩
    have HNO : Hid (∀ k, k < l.length → ¬ okC (l.getD k 0) → partsV l l.length = false) := fun k hk h => by
      rw [Bool.eq_false_iff]; intro g; exact h ((partsV_iff.1 g).2.2.2.1 _ (mem_getD hk))
    generalize partsV l l.length = R at *
    clear hA
    generalize hN : l.length = N at *
    have HN := Lib.hid hN
    clear hN
    go_enter Try.func91, Try.ntmps91
    go_wp2
    go_loop [5, 6] (fun s i => ∃ k : Nat, k ≤ N ∧ i = .int .i64 k ∧ s = .bool (someK l k) ∧ Hid (∀ j, j < k → okC (l.getD j 0))) (fun _ i => N - (intOf i).toNat)
    case atStart => exact ⟨0, by omega, rfl, rfl, fun j hj => absurd hj (by omega)⟩
    case round =>
      obtain ⟨k, hk, rfl, rfl, HE⟩ := hrel
      by_cases hlt : k < N
      · obtain ⟨ad, rfl, _, hc1⟩ := HA.out.at (k := k) (by have := HN.out; omega)
        have HX : Hid (okC (l.getD k 0) → ∀ j, j < k + 1 → okC (l.getD j 0)) := fun h j hj => by
          rcases Nat.lt_or_ge j k with g | g
          · exact HE.out j g
          · rw [show j = k from by omega]; exact h
        have HF := Lib.hid (HNO.out k hlt)
        have HS : Hid (someK l (k + 1) = (someK l k || (l.getD k 0 != 0))) := rfl
        generalize l.getD k 0 = x at *
        generalize someK l k = s at *
        by_cases g1 : x < -4
        · have HR := Lib.hid (HF.out (by unfold okC; omega))
          go_wp2
          go_ret
          exact ⟨ret_bool HR.out.symm, rfl⟩
        · by_cases g2 : 4 < x
          · have HR := Lib.hid (HF.out (by unfold okC; omega))
            go_wp2
            go_ret
            exact ⟨ret_bool HR.out.symm, rfl⟩
          · have HR := Lib.hid (HX.out (by unfold okC; omega))
            cases s
            all_goals
              go_wp2
              go_round
              case rel => exact ⟨k + 1, by omega, by go_num, by rw [HS.out]; simp, HR.out⟩
              case measure => simp [intOf]; omega
      · obtain rfl : k = N := by omega
        go_wp2
        go_ret
        exact ⟨ret_bool (HYES.out HE.out), rfl⟩
  · rw [partsV_no h]
    exact ref_parts_no A l.length c d w h
end Go.Proofs.Ytkkeejbgaaodeaa
/-! The reference of layer 8: Dot, Gap, Order, All, Much. -/
namespace Go.Proofs.Ytkkeejbgaaodeaa
open Go.RowKit
set_option linter.unusedVariables false
set_option linter.unusedSimpArgs false

set_option maxHeartbeats 2000000 in
theorem ref_Dot (A A2 : Option Addr) (a b : List Int) (c c2 B : Nat) (w : World) (hA : Lies w B A a) (hA2 : Lies w B A2 b) :
    Calls Try.prog 111 #[.slice A a.length c, .slice A2 b.length c2] w fun e w' => e = .returned (.tuple #[.int .i64 (dotN a b), .int .i64 (dotC a b)]) ∧ ∃ n, w' = w.drewN n := by
  have K1 := Lib.hid (ref_parts A a c B a.length w hA)
  have K2 := Lib.hid (ref_is A2 b c2 B a.length w hA2)
  have HA := Lib.hid hA
  have HA2 := Lib.hid hA2
  have HN : Hid (dotN a b = if dotE a b then dotI a b a.length else 0) := rfl
  have HC : Hid (dotC a b = if dotE a b then 0 else 80) := rfl
  have HE : Hid (dotE a b = (partsV a a.length && isV b a.length)) := rfl
  have HOK : Hid (dotE a b = true → b.length = a.length ∧ a.length ≤ 8 ∧ (∀ k, okC (a.getD k 0)) ∧ (∀ k, okN (b.getD k 0)) ∧ ∀ k : Nat, -(8589934592 * (k : Int)) ≤ dotI a b k ∧ dotI a b k ≤ 8589934592 * k) := fun h =>
    ⟨(dotE_ok h).2.2.1, (dotE_ok h).2.2.2, getD_okC (dotE_ok h).1, getD_okN (dotE_ok h).2.1, dotI_v (dotE_ok h).1 (dotE_ok h).2.1⟩
  generalize dotN a b = n at *
  generalize dotC a b = m at *
  generalize dotE a b = q at *
  generalize partsV a a.length = p1 at *
  generalize isV b a.length = p2 at *
  clear hA hA2
  cases p1
  · generalize a.length = N at *
    generalize b.length = M at *
    go_enter Try.func111, Try.ntmps111
    go_wp2_with fail
    refine K1.out.mono ?_
    rintro e w1 ⟨rfl, rfl⟩
    go_wp2
    go_ret2
    exact ⟨ret2i (by rw [HN.out, HE.out]; rfl) (by rw [HC.out, HE.out]; rfl), 0, rfl⟩
  · cases p2
    · generalize a.length = N at *
      generalize b.length = M at *
      go_enter Try.func111, Try.ntmps111
      go_wp2_with fail
      refine K1.out.mono ?_
      rintro e w1 ⟨rfl, rfl⟩
      go_wp2_with fail
      refine K2.out.mono ?_
      rintro e w1 ⟨rfl, rfl⟩
      go_wp2
      go_ret2
      exact ⟨ret2i (by rw [HN.out, HE.out]; rfl) (by rw [HC.out, HE.out]; rfl), 0, rfl⟩
    · obtain ⟨hlen, h8, hc, hv, hd⟩ := HOK.out HE.out
      have HL := Lib.hid hlen
      have HCC := Lib.hid hc
      have HO := Lib.hid hv
      have HD := Lib.hid hd
      clear hlen hc hv hd HOK
      generalize hN : a.length = N at *
      have HNN := Lib.hid hN
      clear hN
      generalize hM : b.length = M at *
      have HMM := Lib.hid hM
      clear hM
      go_enter Try.func111, Try.ntmps111
      go_wp2_with fail
      refine K1.out.mono ?_
      rintro e w1 ⟨rfl, rfl⟩
      go_wp2_with fail
      refine K2.out.mono ?_
      rintro e w1 ⟨rfl, rfl⟩
      go_wp2
      go_loopw [6, 7] (fun s i wr => ∃ k : Nat, k ≤ N ∧ i = .int .i64 k ∧ s = .int .i64 (dotI a b k) ∧ Hid (∃ n, wr = w.drewN n)) (fun _ i _ => N - (intOf i).toNat)
      case atStart => exact ⟨0, by omega, rfl, rfl, ⟨0, rfl⟩⟩
      case round =>
        obtain ⟨k, hk, rfl, rfl, HW⟩ := hrel
        by_cases hlt : k < N
        · have HAr : Hid (Lies wr B A a) := by obtain ⟨n, hn⟩ := HW.out; show Lies _ _ _ _; rw [hn]; exact HA.out
          have HAr2 : Hid (Lies wr B A2 b) := by obtain ⟨n, hn⟩ := HW.out; show Lies _ _ _ _; rw [hn]; exact HA2.out
          obtain ⟨ad, rfl, _, hc1⟩ := HAr.out.at (k := k) (by have := HNN.out; omega)
          obtain ⟨ad2, rfl, _, hc2⟩ := HAr2.out.at (k := k) (by have := HMM.out; have := HL.out; omega)
          have hm := mul_okC (HCC.out k) (HO.out k)
          have hd := HD.out k
          have HS : Hid (dotI a b (k + 1) = dotI a b k + a.getD k 0 * b.getD k 0) := rfl
          obtain ⟨hm1, hm2⟩ := hm
          obtain ⟨hd1, hd2⟩ := hd
          generalize a.getD k 0 = x at *
          generalize b.getD k 0 = y at *
          generalize dotI a b k = z at *
          have hji : (k : Int) < (N : Int) := by omega
          have hji2 : (k : Int) < (M : Int) := by have := HL.out; omega
          go_wp2
          go_quiet (fail)
          go_wp2
          exact ⟨⟨k + 1, by omega, by go_num, by rw [HS.out], (by obtain ⟨m, hm⟩ := HW.out; show ∃ _, _; rw [hm]; exact dre2' _ _ _)⟩, by first | (simp [intOf]; done) | (simp [intOf]; omega)⟩
        · obtain rfl : k = N := by omega
          go_wp2
          go_ret2
          exact ⟨ret2i (by rw [HN.out, HE.out]; rfl) (by rw [HC.out, HE.out]; rfl), HW.out⟩
theorem allV_nil (d : Int) : allV [] d = true := rfl
set_option maxHeartbeats 1000000 in
theorem ref_All (A : Option Addr) (R : List Row) (c B : Nat) (d : Int) (w : World) (hA : LiesR w B A R) (hl : (R.length : Int) ≤ 9223372036854775807) :
    Calls Try.prog 49 #[.slice A R.length c, .int .i64 d] w fun e w' => e = .returned (.bool (allV R d && decide (0 < R.length))) ∧ w = w' := by
  have HA := Lib.hid hA
  have HT0 : Hid (∀ k, k < R.length → allV (R.take (k + 1)) d = (allV (R.take k) d && isV (R.getD k row0).l d)) := fun k hk => allV_take hk
  have HF0 : Hid (∀ k, k < R.length → isV (R.getD k row0).l d = false → allV R d = false) := fun k hk h => allV_false hk h
  have HEnd : Hid (allV (R.take R.length) d = true → allV R d = true) := fun h => by rw [List.take_length] at h; exact h
  generalize allV R d = q at *
  clear hA
  generalize hN : R.length = N at *
  have HN := Lib.hid hN
  clear hN
  go_enter Try.func49, Try.ntmps49
  go_wp2
  go_loop [5] (fun i => ∃ k : Nat, k ≤ N ∧ i = .int .i64 k ∧ Hid (allV (R.take k) d = true)) (fun i => N - (intOf i).toNat)
  case atStart => exact ⟨0, by omega, rfl, rfl⟩
  case round =>
    obtain ⟨k, hk, rfl, HT⟩ := hrel
    by_cases hlt : k < N
    · obtain ⟨ad, rfl, _, hcell, hlies⟩ := HA.out.at (k := k) (by have := HN.out; omega)
      have K := Lib.hid (ref_is _ _ (R.getD k row0).c B d w hlies)
      have HS := Lib.hid (HT0.out k hlt)
      have HF := Lib.hid (HF0.out k hlt)
      clear hlies
      generalize R.getD k row0 = r at *
      obtain ⟨ra, rl, rc⟩ := r
      simp only at hcell K HS HF
      generalize hv : isV rl d = v at *
      have HV := Lib.hid hv
      clear hv
      generalize rl.length = M at *
      cases v
      · have HR := Lib.hid (HF.out rfl)
        clear HF
        go_wp2_with fail
        refine K.out.mono ?_
        rintro e w1 ⟨rfl, rfl⟩
        go_wp2
        go_ret
        exact ⟨ret_bool (by rw [HR.out]; rfl), rfl⟩
      · clear HF
        go_wp2_with fail
        refine K.out.mono ?_
        rintro e w1 ⟨rfl, rfl⟩
        go_wp2
        go_round
        case rel => exact ⟨k + 1, by omega, by go_num, (by show _ = _; rw [HS.out, HT.out]; rfl)⟩
        case measure => simp [intOf]; omega
    · obtain rfl : k = N := by omega
      have HR := Lib.hid (HEnd.out HT.out)
      go_wp2
      go_ret
      exact ⟨ret_bool (by rw [HR.out]; simp), rfl⟩
/-- more rows than most, or one that is longer than 20 -/
def muchV (R : List Row) (m : Int) : Bool := decide (m < R.length) || R.any fun r => decide (20 < r.l.length)
theorem muchV_no {R : List Row} {m : Int} (h : muchV R m = false) : (R.length : Int) ≤ m ∧ ∀ r ∈ R, r.l.length ≤ 20 := by
  unfold muchV at h
  rw [Bool.or_eq_false_iff] at h
  refine ⟨by have := of_decide_eq_false h.1; omega, fun r hr => ?_⟩
  have h2 := h.2
  rw [List.any_eq_false] at h2
  have := h2 r hr
  simp at this
  exact this
theorem muchV_yes {R : List Row} {m : Int} {k : Nat} (hk : k < R.length) (h : 20 < (R.getD k row0).l.length) : muchV R m = true := by
  unfold muchV
  rw [Bool.or_eq_true]
  right
  rw [List.any_eq_true]
  exact ⟨_, getD_mem hk, decide_eq_true h⟩
theorem muchV_end {R : List Row} {m : Int} (h0 : (R.length : Int) ≤ m) (h : ∀ j, j < R.length → (R.getD j row0).l.length ≤ 20) : muchV R m = false := by
  unfold muchV
  rw [Bool.or_eq_false_iff]
  refine ⟨decide_eq_false (by omega), ?_⟩
  rw [List.any_eq_false]
  intro r hr
  obtain ⟨j, hj, rfl⟩ := List.mem_iff_getElem.1 hr
  have := h j hj
  rw [List.getD_eq_getElem?_getD, List.getElem?_eq_getElem hj] at this
  simpa using this
set_option maxHeartbeats 1000000 in
theorem ref_Much (A : Option Addr) (R : List Row) (c B : Nat) (m : Int) (w : World) (hA : LiesR w B A R) (hl : (R.length : Int) ≤ 9223372036854775807) :
    Calls Try.prog 19 #[.slice A R.length c, .int .i64 m] w fun e w' => e = .returned (.bool (muchV R m)) ∧ w = w' := by
  have HA := Lib.hid hA
  have HY : Hid (∀ k, k < R.length → 20 < (R.getD k row0).l.length → muchV R m = true) := fun k hk h => muchV_yes hk h
  have HE0 : Hid ((R.length : Int) ≤ m → (∀ j, j < R.length → (R.getD j row0).l.length ≤ 20) → muchV R m = false) := fun h0 h => muchV_end h0 h
  have H0 : Hid (m < R.length → muchV R m = true) := fun h => by
    show _ = _
    unfold muchV
    rw [decide_eq_true h]; rfl
  generalize muchV R m = q at *
  clear hA
  generalize hN : R.length = N at *
  have HN := Lib.hid hN
  clear hN
  by_cases hm : m < N
  · have HR := Lib.hid (H0.out hm)
    go_enter Try.func19, Try.ntmps19
    go_wp2
    go_ret
    exact ⟨ret_bool HR.out.symm, rfl⟩
  · have HE1 := Lib.hid (HE0.out (by omega))
    go_enter Try.func19, Try.ntmps19
    go_wp2
    go_loop [5] (fun i => ∃ k : Nat, k ≤ N ∧ i = .int .i64 k ∧ Hid (∀ j, j < k → (R.getD j row0).l.length ≤ 20)) (fun i => N - (intOf i).toNat)
    case atStart => exact ⟨0, by omega, rfl, fun j hj => absurd hj (by omega)⟩
    case round =>
      obtain ⟨k, hk, rfl, HT⟩ := hrel
      by_cases hlt : k < N
      · obtain ⟨ad, rfl, _, hcell, hlies⟩ := HA.out.at (k := k) (by have := HN.out; omega)
        have HF := Lib.hid (HY.out k hlt)
        have HX : Hid ((R.getD k row0).l.length ≤ 20 → ∀ j, j < k + 1 → (R.getD j row0).l.length ≤ 20) := fun h j hj => by
          rcases Nat.lt_or_ge j k with g | g
          · exact HT.out j g
          · rw [show j = k from by omega]; exact h
        clear hlies
        generalize R.getD k row0 = r at *
        obtain ⟨ra, rl, rc⟩ := r
        simp only at hcell HF HX
        generalize rl.length = M at *
        by_cases hM : 20 < M
        · have hM' : (20 : Int) < (M : Int) := by omega
          have HR := Lib.hid (HF.out hM)
          go_wp2
          go_ret
          exact ⟨ret_bool HR.out.symm, rfl⟩
        · have hM' : ¬ (20 : Int) < (M : Int) := by omega
          have HR := Lib.hid (HX.out (by omega))
          go_wp2
          go_round
          case rel => exact ⟨k + 1, by omega, by go_num, HR.out⟩
          case measure => simp [intOf]; omega
      · obtain rfl : k = N := by omega
        have HR := Lib.hid (HE1.out HT.out)
        go_wp2
        go_ret
        exact ⟨ret_bool HR.out.symm, rfl⟩
end Go.Proofs.Ytkkeejbgaaodeaa
/-! Lists of the call's own: one number more, a copy; rows that are stored into. -/
namespace Go.Proofs.Ytkkeejbgaaodeaa
open Go.RowKit
set_option linter.unusedVariables false
set_option linter.unusedSimpArgs false

def litI (l : List Int) : List Value := l.map (Value.int .i64)
theorem litI_len (l : List Int) : (litI l).length = l.length := by simp [litI]
theorem litI_snoc (l : List Int) (d : Int) : litI l ++ [Value.int .i64 d] = litI (l ++ [d]) := by simp [litI]
theorem litI_get (l : List Int) (j : Nat) (h : j < l.length) : (litI l)[j]? = some (.int .i64 (l.getD j 0)) := by
  simp [litI, List.getD, h]
theorem infoI : (Try.prog.info? 3).map (fun i => (i.zero, i.size, i.bytes)) = some (some (.int .i64 0), 1, 8) := by kernel_rfl
theorem lies_ownI {w : World} {base : Nat} {e : TypeId} {v : Value} {l : List Int} (h : w.ownsRow base e 1 v l.length (litI l)) :
    ∃ A c, v = .slice A l.length c ∧ l.length ≤ c ∧ c ≤ maxLen ∧ Lies w w.heap.size A l := by
  rcases h.2 with ⟨rfl, h0⟩ | ⟨g, cap, cur, rfl, hb, hh, hnc, hm, hsz, hx⟩
  · rw [h0]
    exact ⟨none, 0, rfl, by omega, by unfold maxLen; omega, fun h1 => absurd h1 (by omega)⟩
  · refine ⟨_, cap, rfl, hnc, hm, fun _ => ⟨⟨g, 0, none⟩, rfl, ?_, fun j hj => ?_⟩⟩
    · rcases Nat.lt_or_ge g w.heap.size with hlt | hge
      · exact hlt
      · rw [Array.getElem?_eq_none hge] at hh; cases hh
    · have h1 : (⟨g, 0, none⟩ : Addr).add j = ⟨g, j, none⟩ := by unfold Addr.add; split <;> simp_all
      rw [h1]
      refine (cell_of_row w g j _ _ (0, 0) hh).trans ?_
      rw [← litI_get l j hj, ← hx, List.getElem?_take]
      simp
      intro h2; omega
theorem ownI_below {w w' : World} {B : Nat} {v : Value} {n : Nat} {xs : List Value} (h : w.ownsRow B 3 1 v n xs) (hb : Below w.heap.size w w') : w'.ownsRow B 3 1 v n xs := by
  refine h.kept ⟨hb.os, hb.tape, hb.output, hb.size, fun k hk _ => hb.block k hk⟩ (row := none) ?_
  rcases h.2 with ⟨rfl, _⟩ | ⟨g, cap, cur, rfl, _⟩ <;> simp [Value.ownBlock]
theorem own_neI {w : World} {B g : Nat} {v : Value} {n s : Nat} {xs : List Value} {e T : TypeId} {cs : Array Value} (h : w.ownsRow B e s v n xs) (hx : Box w g cs T) (hT : T ≠ e) : v.ownBlock ≠ some g := by
  rcases h.2 with ⟨rfl, _⟩ | ⟨g', cap, cur, rfl, _, hh, _⟩
  · simp [Value.ownBlock]
  · simp only [Value.ownBlock, ne_eq, Option.some.injEq]
    rintro rfl
    unfold Box at hx
    rw [hh] at hx
    simp at hx
    exact hT hx.2.symm
/-- one number more onto a list of the call's own -/
theorem app_int {B : Nat} {wr : World} {ops : Array Oper} {rest : List Oper} {o : Oper} {a : Act} {Q : Exit → Act → World → Prop} (hgd : o.guard = none) (s x : Operand)
    (ho : o.op = .call { callee := .builtin .append, args := #[s, x], argTypes := #[35, 35] })
    (v : Value) (l : List Int) (d : Int) (hs : a.eval s = v) (hown : wr.ownsRow B 3 1 v l.length (litI l)) (hx : a.eval x = .slice (some ⟨wr.heap.size, 0, none⟩) 1 1)
    (hB : B ≤ wr.heap.size) (hn : l.length + 1 ≤ 1000000000)
    (h : ∀ v' w', w'.ownsRow B 3 1 v' (l ++ [d]).length (litI (l ++ [d])) → Below B wr w' → (∀ (g : Nat) (cs : Array Value) (T : TypeId), T ≠ 3 → Box wr g cs T → Box w' g cs T) → wpList Try.prog ops Q rest (a.put o.dst v') w') :
    wpList Try.prog ops Q (o :: rest) a (wr.alloc (.cells #[.int .i64 d] 3)) := by
  obtain ⟨i0, hi, hz0, hz1, hz2⟩ := info_parts infoI
  refine wpList_append_own _ hgd s x 35 ho B 3 i0 (.int .i64 0) 1 8 Try.underlying35 hi hz0 hz1 hz2 rfl (by decide) v l.length (litI l) hs (hown.alloc _) ⟨wr.heap.size, 0, none⟩ 1 1 [.int .i64 d] hx rfl ?_ ?_ ?_ ?_ ?_ ?_
  · intro j u hj
    cases j with
    | zero =>
      simp only [List.getElem?_cons_zero] at hj
      rw [← hj]
      exact cell_of_row _ _ 0 _ _ (0, 0) (heap_alloc_new wr _)
    | succ j => simp at hj
  · intro u hu; rw [List.mem_singleton.1 hu]; rfl
  · unfold maxLen; omega
  · omega
  · simp; omega
  · intro v' w' h1 h2 _
    refine h v' w' ?_ ?_ ?_
    · rw [List.length_append, ← litI_snoc]; exact h1
    · refine ((Below.refl _ _).alloc hB _).grown h2 (by simp; omega) fun k hk => ?_
      rcases hown.2 with ⟨rfl, _⟩ | ⟨g, cap, cur, rfl, hg, _⟩
      · simp [Value.ownBlock] at hk
      · simp only [Value.ownBlock, Option.some.injEq] at hk; omega
    · intro g cs T hT hb
      have hb2 := hb.alloc (.cells #[.int .i64 d] 3)
      exact (h2.block g hb2.lt (fun e => own_neI (hown.alloc (.cells #[.int .i64 d] 3)) hb2 hT e.symm)).trans hb2
/-- it gives a row of these numbers, of the call's own -/
def GivesI (l : List Int) (w : World) (e : Ending) (w' : World) : Prop := ∃ A c, e = .returned (.slice A l.length c) ∧ l.length ≤ c ∧ c ≤ maxLen ∧ Lies w' w'.heap.size A l ∧ Below w.heap.size w w'

/-- the indices below k at which lo is below hi -/
def openK (lo hi : List Int) : Nat → List Int
  | 0 => []
  | k + 1 => if lo.getD k 0 < hi.getD k 0 then openK lo hi k ++ [(k : Int)] else openK lo hi k
theorem openK_len (lo hi : List Int) (k : Nat) : (openK lo hi k).length ≤ k := by
  induction k with
  | zero => simp [openK]
  | succ k ih =>
    simp only [openK]
    split
    · rw [List.length_append]; simp; exact ih
    · omega
def openL (lo hi : List Int) : List Int := openK lo hi (min lo.length hi.length)
theorem below_drewN2 {B : Nat} {a w : World} (h : Below B a w) (n : Nat) : Below B a (w.drewN n) := ⟨h.os, h.tape, h.output, h.size, h.block⟩
theorem ownI_drewN {w : World} {B : Nat} {v : Value} {n : Nat} {xs : List Value} (h : w.ownsRow B 3 1 v n xs) (k : Nat) : (w.drewN k).ownsRow B 3 1 v n xs := ownI_below h (below_drewN2 (Below.refl _ _) k)
set_option maxHeartbeats 2000000 in
theorem vec_Open (A A2 : Option Addr) (a b : List Int) (c c2 : Nat) (w : World) (hA : Lies w w.heap.size A a) (hA2 : Lies w w.heap.size A2 b) (hla : a.length ≤ 1000000) (hlb : b.length ≤ 1000000) :
    Calls Try.prog 94 #[.slice A a.length c, .slice A2 b.length c2] w (GivesI (openL a b) w) := by
  have HA := Lib.hid hA
  have HA2 := Lib.hid hA2
  unfold openL
  clear hA hA2
  generalize hN : a.length = N at *
  generalize hM : b.length = M at *
  have HN := Lib.hid hN
  have HM := Lib.hid hM
  clear hN hM
  rcases Nat.lt_or_ge M N with hc | hc
  · rw [show min N M = M from by omega]
    · go_enter Try.func94, Try.ntmps94
      go_wp2
      go_loopw [5, 12] (fun vv i wr => ∃ k : Nat, k ≤ M ∧ i = .int .i64 k ∧ Hid (wr.ownsRow w.heap.size 3 1 vv (openK a b k).length (litI (openK a b k))) ∧ Hid (Below w.heap.size w wr)) (fun _ i _ => M - (intOf i).toNat)
      case atStart => exact ⟨0, by omega, rfl, World.ownsRow_nil _ _ _ _, Below.refl _ _⟩
      case round =>
        obtain ⟨k, hk, rfl, HO, HB⟩ := hrel
        by_cases hlt : k < M
        · have HAr : Hid (Lies wr w.heap.size A a) := HA.out.below HB.out
          have HAr2 : Hid (Lies wr w.heap.size A2 b) := HA2.out.below HB.out
          obtain ⟨ad, rfl, hb1, hc1⟩ := HAr.out.at (k := k) (by have := HN.out; omega)
          obtain ⟨ad2, rfl, hb2, hc2⟩ := HAr2.out.at (k := k) (by have := HM.out; omega)
          have HS : Hid (openK a b (k + 1) = if a.getD k 0 < b.getD k 0 then openK a b k ++ [(k : Int)] else openK a b k) := rfl
          have hlen := openK_len a b k
          generalize openK a b k = l1 at *
          generalize a.getD k 0 = x at *
          generalize b.getD k 0 = y at *
          have hji : (k : Int) < (N : Int) := by omega
          have hji2 : (k : Int) < (M : Int) := by omega
          by_cases hxy : x < y
          · rw [if_pos hxy] at HS
            have HLN : Hid (l1.length + 1 ≤ 1000000000) := by show _ ≤ _; omega
            clear hlen
            go_wp2
            go_quiet (fail)
            go_wp2_with (at_builtin; refine app_int rfl (.tmp 24) (.tmp 26) rfl _ l1 k rfl (ownI_drewN HO.out nq) rfl (by have := HB.out.size; simpa using this) HLN.out ?_; intro v' w4 hown4 hb4 _)
            have hb5 := (below_drewN2 HB.out nq).trans hb4
            refine ⟨⟨k + 1, by omega, by go_num, (by show World.ownsRow _ _ _ _ _ _ _; rw [HS.out]; exact hown4), hb5⟩, by first | (simp [intOf]; done) | (simp [intOf]; omega)⟩
          · rw [if_neg hxy] at HS
            go_wp2
            go_quiet (fail)
            go_wp2
            refine ⟨⟨k + 1, by omega, by go_num, (by show World.ownsRow _ _ _ _ _ _ _; rw [HS.out]; exact ownI_drewN HO.out nq), below_drewN2 HB.out nq⟩, by first | (simp [intOf]; done) | (simp [intOf]; omega)⟩
        · obtain rfl : k = M := by omega
          have hown := HO.out
          obtain ⟨A1, c1, rfl, g1, g2, g3⟩ := lies_ownI hown
          go_wp2
          go_ret
          exact ⟨A1, c1, rfl, g1, g2, g3, HB.out⟩
  · rw [show min N M = N from by omega]
    · go_enter Try.func94, Try.ntmps94
      go_wp2
      go_loopw [5, 12] (fun vv i wr => ∃ k : Nat, k ≤ N ∧ i = .int .i64 k ∧ Hid (wr.ownsRow w.heap.size 3 1 vv (openK a b k).length (litI (openK a b k))) ∧ Hid (Below w.heap.size w wr)) (fun _ i _ => N - (intOf i).toNat)
      case atStart => exact ⟨0, by omega, rfl, World.ownsRow_nil _ _ _ _, Below.refl _ _⟩
      case round =>
        obtain ⟨k, hk, rfl, HO, HB⟩ := hrel
        by_cases hlt : k < N
        · have HAr : Hid (Lies wr w.heap.size A a) := HA.out.below HB.out
          have HAr2 : Hid (Lies wr w.heap.size A2 b) := HA2.out.below HB.out
          obtain ⟨ad, rfl, hb1, hc1⟩ := HAr.out.at (k := k) (by have := HN.out; omega)
          obtain ⟨ad2, rfl, hb2, hc2⟩ := HAr2.out.at (k := k) (by have := HM.out; omega)
          have HS : Hid (openK a b (k + 1) = if a.getD k 0 < b.getD k 0 then openK a b k ++ [(k : Int)] else openK a b k) := rfl
          have hlen := openK_len a b k
          generalize openK a b k = l1 at *
          generalize a.getD k 0 = x at *
          generalize b.getD k 0 = y at *
          have hji : (k : Int) < (N : Int) := by omega
          have hji2 : (k : Int) < (M : Int) := by omega
          by_cases hxy : x < y
          · rw [if_pos hxy] at HS
            have HLN : Hid (l1.length + 1 ≤ 1000000000) := by show _ ≤ _; omega
            clear hlen
            go_wp2
            go_quiet (fail)
            go_wp2_with (at_builtin; refine app_int rfl (.tmp 24) (.tmp 26) rfl _ l1 k rfl (ownI_drewN HO.out nq) rfl (by have := HB.out.size; simpa using this) HLN.out ?_; intro v' w4 hown4 hb4 _)
            have hb5 := (below_drewN2 HB.out nq).trans hb4
            refine ⟨⟨k + 1, by omega, by go_num, (by show World.ownsRow _ _ _ _ _ _ _; rw [HS.out]; exact hown4), hb5⟩, by first | (simp [intOf]; done) | (simp [intOf]; omega)⟩
          · rw [if_neg hxy] at HS
            go_wp2
            go_quiet (fail)
            go_wp2
            refine ⟨⟨k + 1, by omega, by go_num, (by show World.ownsRow _ _ _ _ _ _ _; rw [HS.out]; exact ownI_drewN HO.out nq), below_drewN2 HB.out nq⟩, by first | (simp [intOf]; done) | (simp [intOf]; omega)⟩
        · obtain rfl : k = N := by omega
          have hown := HO.out
          obtain ⟨A1, c1, rfl, g1, g2, g3⟩ := lies_ownI hown
          go_wp2
          go_ret
          exact ⟨A1, c1, rfl, g1, g2, g3, HB.out⟩
end Go.Proofs.Ytkkeejbgaaodeaa
/-! The reference of layer 8: Open, Reach, Near; package vec: extremes of rows. -/
namespace Go.Proofs.Ytkkeejbgaaodeaa
open Go.RowKit
set_option linter.unusedVariables false
set_option linter.unusedSimpArgs false

set_option maxHeartbeats 2000000 in
theorem ref_Open (A A2 : Option Addr) (a b : List Int) (c c2 : Nat) (w : World) (hA : Lies w w.heap.size A a) (hA2 : Lies w w.heap.size A2 b) (hla : a.length ≤ 1000000) (hlb : b.length ≤ 1000000) :
    Calls Try.prog 105 #[.slice A a.length c, .slice A2 b.length c2] w (GivesI (openL a b) w) := by
  have HA := Lib.hid hA
  have HA2 := Lib.hid hA2
  unfold openL
  clear hA hA2
  generalize hN : a.length = N at *
  generalize hM : b.length = M at *
  have HN := Lib.hid hN
  have HM := Lib.hid hM
  clear hN hM
  go_enter Try.func105, Try.ntmps105
  go_wp2
  go_loopw [5, 6] (fun vv i wr => ∃ k : Nat, k ≤ N ∧ k ≤ M ∧ i = .int .i64 k ∧ Hid (wr.ownsRow w.heap.size 3 1 vv (openK a b k).length (litI (openK a b k))) ∧ Hid (Below w.heap.size w wr)) (fun _ i _ => N - (intOf i).toNat)
  case atStart => exact ⟨0, by omega, by omega, rfl, World.ownsRow_nil _ _ _ _, Below.refl _ _⟩
  case round =>
    obtain ⟨k, hk, hk2, rfl, HO, HB⟩ := hrel
    by_cases hlt : k < N
    · by_cases hlt2 : k < M
      · have HAr : Hid (Lies wr w.heap.size A a) := HA.out.below HB.out
        have HAr2 : Hid (Lies wr w.heap.size A2 b) := HA2.out.below HB.out
        obtain ⟨ad, rfl, hb1, hc1⟩ := HAr.out.at (k := k) (by have := HN.out; omega)
        obtain ⟨ad2, rfl, hb2, hc2⟩ := HAr2.out.at (k := k) (by have := HM.out; omega)
        have HS : Hid (openK a b (k + 1) = if a.getD k 0 < b.getD k 0 then openK a b k ++ [(k : Int)] else openK a b k) := rfl
        have hlen := openK_len a b k
        generalize openK a b k = l1 at *
        generalize a.getD k 0 = x at *
        generalize b.getD k 0 = y at *
        have hji : (k : Int) < (N : Int) := by omega
        have hji2 : (k : Int) < (M : Int) := by omega
        by_cases hxy : x < y
        · rw [if_pos hxy] at HS
          have HLN : Hid (l1.length + 1 ≤ 1000000000) := by show _ ≤ _; omega
          clear hlen
          go_wp2
          go_quiet (fail)
          go_wp2_with (at_builtin; refine app_int rfl (.tmp 28) (.tmp 30) rfl _ l1 k rfl (ownI_drewN HO.out nq) rfl (by have := HB.out.size; simpa using this) HLN.out ?_; intro v' w4 hown4 hb4 _)
          have hb5 := (below_drewN2 HB.out nq).trans hb4
          refine ⟨⟨k + 1, by omega, by omega, by go_num, (by show World.ownsRow _ _ _ _ _ _ _; rw [HS.out]; exact hown4), hb5⟩, by first | (simp [intOf]; done) | (simp [intOf]; omega)⟩
        · rw [if_neg hxy] at HS
          go_wp2
          go_quiet (fail)
          go_wp2
          refine ⟨⟨k + 1, by omega, by omega, by go_num, (by show World.ownsRow _ _ _ _ _ _ _; rw [HS.out]; exact ownI_drewN HO.out nq), below_drewN2 HB.out nq⟩, by first | (simp [intOf]; done) | (simp [intOf]; omega)⟩
      · obtain rfl : k = M := by omega
        have hown := HO.out
        obtain ⟨A1, c1, rfl, g1, g2, g3⟩ := lies_ownI hown
        go_wp2
        go_ret
        rw [show min N k = k from by omega]
        exact ⟨A1, c1, rfl, g1, g2, g3, HB.out⟩
    · obtain rfl : k = N := by omega
      have hown := HO.out
      obtain ⟨A1, c1, rfl, g1, g2, g3⟩ := lies_ownI hown
      go_wp2
      go_ret
      rw [show min k M = k from by omega]
      exact ⟨A1, c1, rfl, g1, g2, g3, HB.out⟩

/-! ### the reach -/
def dnR (c : List Int) (R : List Row) : List Int := R.map fun r => dotN c r.l
theorem dnR_get (c : List Int) (R : List Row) {k : Nat} (hk : k < R.length) : (dnR c R).getD k 0 = dotN c (R.getD k row0).l := by
  unfold dnR
  rw [List.getD_eq_getElem?_getD, List.getElem?_map, List.getD_eq_getElem?_getD, List.getElem?_eq_getElem hk]; rfl
def reachE (c : List Int) (R : List Row) : Bool := partsV c c.length && (allV R c.length && decide (0 < R.length))
def reachLo (c : List Int) (R : List Row) : Int := if reachE c R then loL ((dnR c R).getD 0 0) (dnR c R).tail else 0
def reachHi (c : List Int) (R : List Row) : Int := if reachE c R then hiL ((dnR c R).getD 0 0) (dnR c R).tail else 0
def reachC (c : List Int) (R : List Row) : Int := if reachE c R then 0 else 80
theorem allV_iff {R : List Row} {d : Int} : allV R d = true ↔ ∀ j, j < R.length → isV (R.getD j row0).l d = true := by
  unfold allV
  rw [List.all_eq_true]
  constructor
  · intro h j hj; exact h _ (getD_mem hj)
  · intro h r hr
    obtain ⟨j, hj, rfl⟩ := List.mem_iff_getElem.1 hr
    have := h j hj
    rw [List.getD_eq_getElem?_getD, List.getElem?_eq_getElem hj] at this
    exact this
theorem reachE_iff {c : List Int} {R : List Row} : reachE c R = true ↔ 0 < R.length ∧ ∀ j, j < R.length → dotE c (R.getD j row0).l = true := by
  unfold reachE
  simp only [Bool.and_eq_true, decide_eq_true_eq, allV_iff, dotE_iff]
  constructor
  · rintro ⟨h1, h2, h3⟩; exact ⟨h3, fun j hj => ⟨h1, h2 j hj⟩⟩
  · rintro ⟨h1, h2⟩; exact ⟨(h2 0 h1).1, fun j hj => (h2 j hj).2, h1⟩
theorem reachE_no {c : List Int} {R : List Row} {k : Nat} (hk : k < R.length) (h : dotE c (R.getD k row0).l = false) : reachE c R = false := by
  rw [Bool.eq_false_iff]; intro g
  rw [(reachE_iff.1 g).2 k hk] at h; cases h
/-- the least so far, as one by one tells it -/
def loS (D : List Int) : Nat → Int
  | 0 => 0
  | k + 1 => if k = 0 ∨ D.getD k 0 < loS D k then D.getD k 0 else loS D k
def hiS (D : List Int) : Nat → Int
  | 0 => 0
  | k + 1 => if k = 0 ∨ hiS D k < D.getD k 0 then D.getD k 0 else hiS D k
theorem if_or0 {k : Nat} (h : ¬ k = 0) (p : Prop) [Decidable p] (x y : Int) : (if k = 0 ∨ p then x else y) = if p then x else y := by
  by_cases g : p
  · rw [if_pos (.inr g), if_pos g]
  · rw [if_neg (fun hh => hh.elim h g), if_neg g]
theorem tail_take {D : List Int} {k : Nat} (hk : k + 1 < D.length) : (D.take (k + 2)).tail = (D.take (k + 1)).tail ++ [D.getD (k + 1) 0] := by
  rw [take_get D hk]
  cases D with
  | nil => simp at hk
  | cons x D => simp
theorem loS_eq (D : List Int) : ∀ k, k < D.length → loS D (k + 1) = loL (D.getD 0 0) (D.take (k + 1)).tail
  | 0, h => by
    simp only [loS]
    cases D with
    | nil => simp at h
    | cons x D => simp [loL]
  | k + 1, h => by
    have ih := loS_eq D k (by omega)
    rw [tail_take h, loL_snoc, ← ih]
    rw [show loS D (k + 1 + 1) = if k + 1 = 0 ∨ D.getD (k + 1) 0 < loS D (k + 1) then D.getD (k + 1) 0 else loS D (k + 1) from rfl]
    split <;> omega
theorem hiS_eq (D : List Int) : ∀ k, k < D.length → hiS D (k + 1) = hiL (D.getD 0 0) (D.take (k + 1)).tail
  | 0, h => by
    simp only [hiS]
    cases D with
    | nil => simp at h
    | cons x D => simp [hiL]
  | k + 1, h => by
    have ih := hiS_eq D k (by omega)
    rw [tail_take h, hiL_snoc, ← ih]
    rw [show hiS D (k + 1 + 1) = if k + 1 = 0 ∨ hiS D (k + 1) < D.getD (k + 1) 0 then D.getD (k + 1) 0 else hiS D (k + 1) from rfl]
    split <;> omega
theorem loS_end {D : List Int} (h : 0 < D.length) : loS D D.length = loL (D.getD 0 0) D.tail := by
  have := loS_eq D (D.length - 1) (by omega)
  rw [show D.length - 1 + 1 = D.length from by omega, List.take_length] at this
  exact this
theorem hiS_end {D : List Int} (h : 0 < D.length) : hiS D D.length = hiL (D.getD 0 0) D.tail := by
  have := hiS_eq D (D.length - 1) (by omega)
  rw [show D.length - 1 + 1 = D.length from by omega, List.take_length] at this
  exact this
set_option maxHeartbeats 2000000 in
theorem ref_Reach (A A2 : Option Addr) (a : List Int) (R : List Row) (c c2 B : Nat) (w : World) (hA : Lies w B A a) (hA2 : LiesR w B A2 R) (hl : (R.length : Int) ≤ 9223372036854775807) :
    Calls Try.prog 128 #[.slice A a.length c, .slice A2 R.length c2] w fun e w' => e = .returned (.tuple #[.int .i64 (reachLo a R), .int .i64 (reachHi a R), .int .i64 (reachC a R)]) ∧ ∃ n, w' = w.drewN n := by
  have HA := Lib.hid hA
  have HA2 := Lib.hid hA2
  have HD := Lib.hid (fun k (hk : k < R.length) => dnR_get a R hk)
  have HNO : Hid (∀ k, k < R.length → dotE a (R.getD k row0).l = false → reachLo a R = 0 ∧ reachHi a R = 0 ∧ reachC a R = 80) := fun k hk h => by
    have := reachE_no hk h
    unfold reachLo reachHi reachC; rw [this]; exact ⟨rfl, rfl, rfl⟩
  have HZ : Hid (R.length = 0 → reachLo a R = 0 ∧ reachHi a R = 0 ∧ reachC a R = 80) := fun h => by
    have : reachE a R = false := by rw [Bool.eq_false_iff]; intro g; have := (reachE_iff.1 g).1; omega
    unfold reachLo reachHi reachC; rw [this]; exact ⟨rfl, rfl, rfl⟩
  have HYES : Hid (0 < R.length → (∀ j, j < R.length → dotE a (R.getD j row0).l = true) → reachLo a R = loS (dnR a R) R.length ∧ reachHi a R = hiS (dnR a R) R.length ∧ reachC a R = 0) := fun h0 h => by
    have h1 := reachE_iff.2 ⟨h0, h⟩
    have h2 : (dnR a R).length = R.length := by unfold dnR; simp
    unfold reachLo reachHi reachC
    rw [if_pos h1, if_pos h1, if_pos h1, ← h2, loS_end (by omega), hiS_end (by omega)]
    exact ⟨rfl, rfl, rfl⟩
  generalize reachLo a R = qlo at *
  generalize reachHi a R = qhi at *
  generalize reachC a R = qc at *
  clear hA hA2
  generalize hN : R.length = N at *
  have HN := Lib.hid hN
  clear hN
  go_enter Try.func128, Try.ntmps128
  go_wp2
  go_loopw [7, 8, 9] (fun lo hi i wr => ∃ k : Nat, k ≤ N ∧ i = .int .i64 k ∧ lo = .int .i64 (loS (dnR a R) k) ∧ hi = .int .i64 (hiS (dnR a R) k) ∧ Hid (∀ j, j < k → dotE a (R.getD j row0).l = true) ∧ Hid (∃ n, wr = w.drewN n)) (fun _ _ i _ => N - (intOf i).toNat)
  case atStart => exact ⟨0, by omega, rfl, rfl, rfl, fun j hj => absurd hj (by omega), ⟨0, rfl⟩⟩
  case round =>
    obtain ⟨k, hk, rfl, rfl, rfl, HE, HW⟩ := hrel
    by_cases hlt : k < N
    · have HAr : Hid (Lies wr B A a) := by obtain ⟨n, hn⟩ := HW.out; show Lies _ _ _ _; rw [hn]; exact HA.out
      have HAr2 : Hid (LiesR wr B A2 R) := by obtain ⟨n, hn⟩ := HW.out; show LiesR _ _ _ _; rw [hn]; exact HA2.out
      obtain ⟨ad, rfl, _, hcell, hlies⟩ := HAr2.out.at (k := k) (by have := HN.out; omega)
      have K := Lib.hid (ref_Dot A _ a (R.getD k row0).l c (R.getD k row0).c B wr HAr.out hlies)
      have HF := Lib.hid (HNO.out k hlt)
      have HX : Hid (dotE a (R.getD k row0).l = true → ∀ j, j < k + 1 → dotE a (R.getD j row0).l = true) := fun h j hj => by
        rcases Nat.lt_or_ge j k with g | g
        · exact HE.out j g
        · rw [show j = k from by omega]; exact h
      have HDk := Lib.hid (HD.out k hlt)
      have HLS : Hid (loS (dnR a R) (k + 1) = if k = 0 ∨ (dnR a R).getD k 0 < loS (dnR a R) k then (dnR a R).getD k 0 else loS (dnR a R) k) := rfl
      have HHS : Hid (hiS (dnR a R) (k + 1) = if k = 0 ∨ hiS (dnR a R) k < (dnR a R).getD k 0 then (dnR a R).getD k 0 else hiS (dnR a R) k) := rfl
      have HCC : Hid (dotC a (R.getD k row0).l = if dotE a (R.getD k row0).l then 0 else 80) := rfl
      clear hlies
      generalize loS (dnR a R) k = x at *
      generalize hiS (dnR a R) k = y at *
      generalize R.getD k row0 = r at *
      obtain ⟨ra, rl, rc⟩ := r
      simp only at hcell K HF HX HDk HCC
      generalize dotN a rl = z at *
      generalize dotC a rl = ec at *
      generalize dotE a rl = q at *
      generalize rl.length = M at *
      generalize a.length = L at *
      cases q
      · obtain ⟨f1, f2, f3⟩ := HF.out rfl
        have F1 := Lib.hid f1
        have F2 := Lib.hid f2
        have F3 := Lib.hid f3
        clear f1 f2 f3
        obtain rfl : ec = 80 := HCC.out
        go_wp2_with fail
        refine K.out.mono ?_
        rintro e w1 ⟨rfl, n, rfl⟩
        go_wp2
        go_ret3
        exact ⟨ret3i F1.out.symm F2.out.symm F3.out.symm, (by obtain ⟨m, hm⟩ := HW.out; rw [hm]; exact dre2' _ _ _)⟩
      · obtain rfl : ec = 0 := HCC.out
        have HEX := Lib.hid (HX.out rfl)
        clear HF HX
        rw [HDk.out] at HLS HHS
        by_cases h0 : k = 0
        · have HL1 := Lib.hid (HLS.out.trans (if_pos (.inl h0)))
          have HH1 := Lib.hid (HHS.out.trans (if_pos (.inl h0)))
          have hk0 : ((k : Int) == 0) = true := by simp; omega
          clear h0 HLS HHS
          go_wp2_with fail
          refine K.out.mono ?_
          rintro e w1 ⟨rfl, n, rfl⟩
          go_wp2
          exact ⟨⟨k + 1, by omega, by go_num, by rw [HL1.out], by rw [HH1.out], HEX.out, (by obtain ⟨m, hm⟩ := HW.out; show ∃ _, _; rw [hm]; exact dre2' _ _ _)⟩, by first | (simp [intOf]; done) | (simp [intOf]; omega)⟩
        · have hk0 : ((k : Int) == 0) = false := by simp; omega
          have HL1 := Lib.hid (HLS.out.trans (if_or0 h0 _ _ _))
          have HH1 := Lib.hid (HHS.out.trans (if_or0 h0 _ _ _))
          clear HLS HHS h0
          by_cases g1 : z < x <;> by_cases g2 : y < z
          all_goals
            first | rw [if_pos g1] at HL1 | rw [if_neg g1] at HL1
            first | rw [if_pos g2] at HH1 | rw [if_neg g2] at HH1
            go_wp2_with fail
            refine K.out.mono ?_
            rintro e w1 ⟨rfl, n, rfl⟩
            go_wp2
            exact ⟨⟨k + 1, by omega, by go_num, by rw [HL1.out], by rw [HH1.out], HEX.out, (by obtain ⟨m, hm⟩ := HW.out; show ∃ _, _; rw [hm]; exact dre2' _ _ _)⟩, by first | (simp [intOf]; done) | (simp [intOf]; omega)⟩
    · obtain rfl : k = N := by omega
      by_cases h0 : k = 0
      · obtain ⟨f1, f2, f3⟩ := HZ.out h0
        have F1 := Lib.hid f1
        have F2 := Lib.hid f2
        have F3 := Lib.hid f3
        clear f1 f2 f3
        subst h0
        go_wp2
        go_ret3
        exact ⟨ret3i F1.out.symm F2.out.symm F3.out.symm, HW.out⟩
      · have hk0 : ((k : Int) == 0) = false := by simp; omega
        obtain ⟨f1, f2, f3⟩ := HYES.out (by omega) HE.out
        have F1 := Lib.hid f1
        have F2 := Lib.hid f2
        have F3 := Lib.hid f3
        clear f1 f2 f3 h0
        go_wp2
        go_ret3
        exact ⟨ret3i F1.out.symm F2.out.symm F3.out.symm, HW.out⟩
end Go.Proofs.Ytkkeejbgaaodeaa
/-! Package vec: extremes of rows, Reach, Near; the reference's Near. -/
namespace Go.Proofs.Ytkkeejbgaaodeaa
open Go.RowKit
set_option linter.unusedVariables false
set_option linter.unusedSimpArgs false

set_option maxHeartbeats 1000000 in
theorem ext_reach (p : Value) (F : Row → Int) (A : Option Addr) (R : List Row) (c B : Nat) (lo hi : Int) (w : World) (hA : LiesR w B A R) (hl : (R.length : Int) ≤ 9223372036854775807)
    (hK : ∀ n j, j < R.length → Calls Try.prog 101 #[.slice (R.getD j row0).a (R.getD j row0).l.length (R.getD j row0).c, p] (w.drewN n) fun e w' => e = .returned (.int .i64 (F (R.getD j row0))) ∧ ∃ m, w' = (w.drewN n).drewN m) :
    Calls Try.prog 100 #[.int .i64 lo, .int .i64 hi, .slice A R.length c, .func (.func 101) #[] #[p]] w fun e w' => e = .returned (.tuple #[.int .i64 (loL lo (R.map F)), .int .i64 (hiL hi (R.map F))]) ∧ ∃ n, w' = w.drewN n := by
  have HA := Lib.hid hA
  have HK := Lib.hid hK
  have HL0 : Hid (∀ k, k < R.length → loL lo ((R.map F).take (k + 1)) = min (loL lo ((R.map F).take k)) (F (R.getD k row0))) := fun k hk => by
    rw [loL_take lo _ (by simpa using hk), List.getD_eq_getElem?_getD, List.getElem?_map, List.getD_eq_getElem?_getD, List.getElem?_eq_getElem hk]; rfl
  have HH0 : Hid (∀ k, k < R.length → hiL hi ((R.map F).take (k + 1)) = max (hiL hi ((R.map F).take k)) (F (R.getD k row0))) := fun k hk => by
    rw [hiL_take hi _ (by simpa using hk), List.getD_eq_getElem?_getD, List.getElem?_map, List.getD_eq_getElem?_getD, List.getElem?_eq_getElem hk]; rfl
  have HEnd : Hid (∀ k, k = R.length → (R.map F).take k = R.map F) := fun k hk => List.take_of_length_le (by simp; omega)
  clear hA hK
  generalize R.map F = D at *
  generalize hN : R.length = N at *
  have HN := Lib.hid hN
  clear hN
  go_enter Try.func100, Try.ntmps100
  go_wp2
  go_loopw [0, 1, 15] (fun a b i wr => ∃ (k : Nat) (x y : Int), k ≤ N ∧ i = .int .i64 k ∧ a = .int .i64 x ∧ b = .int .i64 y ∧ Hid (x = loL lo (D.take k)) ∧ Hid (y = hiL hi (D.take k)) ∧ ∃ n, wr = w.drewN n) (fun _ _ i _ => N - (intOf i).toNat)
  case atStart => exact ⟨0, _, _, by omega, rfl, rfl, rfl, rfl, rfl, 0, rfl⟩
  case round =>
    obtain ⟨k, x, y, hk, rfl, rfl, rfl, HX, HY, n, rfl⟩ := hrel
    by_cases hlt : k < N
    · have HAr : Hid (LiesR (w.drewN n) B A R) := HA.out
      obtain ⟨ad, rfl, _, hcell, _⟩ := HAr.out.at (k := k) (by have := HN.out; omega)
      have HL := Lib.hid (HL0.out k (by omega))
      have HH := Lib.hid (HH0.out k (by omega))
      have K := Lib.hid (HK.out n k (by omega))
      generalize F (R.getD k row0) = z at *
      generalize R.getD k row0 = r at *
      obtain ⟨ra, rl, rc⟩ := r
      simp only at hcell K
      generalize rl.length = M at *
      go_wp2_with fail
      refine K.out.mono ?_
      rintro e w1 ⟨rfl, m, rfl⟩
      go_wp2
      go_roundw
      case rel => exact ⟨k + 1, _, _, by omega, by go_num, rfl, rfl, (by show _ = _; rw [HL.out, ← HX.out, ← min_if]), (by show _ = _; rw [HH.out, ← HY.out, ← max_if]), _, rfl⟩
      case measure => simp [intOf]; omega
    · obtain rfl : k = N := by omega
      have h1 := HEnd.out k rfl
      have HE := Lib.hid h1
      clear h1
      go_wp2
      go_ret2
      exact ⟨ret2i (HX.out.trans (by rw [HE.out])) (HY.out.trans (by rw [HE.out])), n, rfl⟩

set_option maxHeartbeats 1000000 in
theorem ext_box (p : Value) (F : Row → Int) (A : Option Addr) (R : List Row) (c B : Nat) (lo hi : Int) (w : World) (hA : LiesR w B A R) (hl : (R.length : Int) ≤ 9223372036854775807)
    (hK : ∀ n j, j < R.length → Calls Try.prog 121 #[.slice (R.getD j row0).a (R.getD j row0).l.length (R.getD j row0).c, p] (w.drewN n) fun e w' => e = .returned (.int .i64 (F (R.getD j row0))) ∧ ∃ m, w' = (w.drewN n).drewN m) :
    Calls Try.prog 100 #[.int .i64 lo, .int .i64 hi, .slice A R.length c, .func (.func 121) #[] #[p]] w fun e w' => e = .returned (.tuple #[.int .i64 (loL lo (R.map F)), .int .i64 (hiL hi (R.map F))]) ∧ ∃ n, w' = w.drewN n := by
  have HA := Lib.hid hA
  have HK := Lib.hid hK
  have HL0 : Hid (∀ k, k < R.length → loL lo ((R.map F).take (k + 1)) = min (loL lo ((R.map F).take k)) (F (R.getD k row0))) := fun k hk => by
    rw [loL_take lo _ (by simpa using hk), List.getD_eq_getElem?_getD, List.getElem?_map, List.getD_eq_getElem?_getD, List.getElem?_eq_getElem hk]; rfl
  have HH0 : Hid (∀ k, k < R.length → hiL hi ((R.map F).take (k + 1)) = max (hiL hi ((R.map F).take k)) (F (R.getD k row0))) := fun k hk => by
    rw [hiL_take hi _ (by simpa using hk), List.getD_eq_getElem?_getD, List.getElem?_map, List.getD_eq_getElem?_getD, List.getElem?_eq_getElem hk]; rfl
  have HEnd : Hid (∀ k, k = R.length → (R.map F).take k = R.map F) := fun k hk => List.take_of_length_le (by simp; omega)
  clear hA hK
  generalize R.map F = D at *
  generalize hN : R.length = N at *
  have HN := Lib.hid hN
  clear hN
  go_enter Try.func100, Try.ntmps100
  go_wp2
  go_loopw [0, 1, 15] (fun a b i wr => ∃ (k : Nat) (x y : Int), k ≤ N ∧ i = .int .i64 k ∧ a = .int .i64 x ∧ b = .int .i64 y ∧ Hid (x = loL lo (D.take k)) ∧ Hid (y = hiL hi (D.take k)) ∧ ∃ n, wr = w.drewN n) (fun _ _ i _ => N - (intOf i).toNat)
  case atStart => exact ⟨0, _, _, by omega, rfl, rfl, rfl, rfl, rfl, 0, rfl⟩
  case round =>
    obtain ⟨k, x, y, hk, rfl, rfl, rfl, HX, HY, n, rfl⟩ := hrel
    by_cases hlt : k < N
    · have HAr : Hid (LiesR (w.drewN n) B A R) := HA.out
      obtain ⟨ad, rfl, _, hcell, _⟩ := HAr.out.at (k := k) (by have := HN.out; omega)
      have HL := Lib.hid (HL0.out k (by omega))
      have HH := Lib.hid (HH0.out k (by omega))
      have K := Lib.hid (HK.out n k (by omega))
      generalize F (R.getD k row0) = z at *
      generalize R.getD k row0 = r at *
      obtain ⟨ra, rl, rc⟩ := r
      simp only at hcell K
      generalize rl.length = M at *
      go_wp2_with fail
      refine K.out.mono ?_
      rintro e w1 ⟨rfl, m, rfl⟩
      go_wp2
      go_roundw
      case rel => exact ⟨k + 1, _, _, by omega, by go_num, rfl, rfl, (by show _ = _; rw [HL.out, ← HX.out, ← min_if]), (by show _ = _; rw [HH.out, ← HY.out, ← max_if]), _, rfl⟩
      case measure => simp [intOf]; omega
    · obtain rfl : k = N := by omega
      have h1 := HEnd.out k rfl
      have HE := Lib.hid h1
      clear h1
      go_wp2
      go_ret2
      exact ⟨ret2i (HX.out.trans (by rw [HE.out])) (HY.out.trans (by rw [HE.out])), n, rfl⟩

theorem reach1 (A A2 : Option Addr) (a b : List Int) (c c2 B g : Nat) (w : World) (hx : w.cell? ⟨g, 0, none⟩ = some (.slice A a.length c)) (hA : Lies w B A a) (hA2 : Lies w B A2 b) (h : dotE a b = true) :
    Calls Try.prog 101 #[.slice A2 b.length c2, ptr g 0] w fun e w' => e = .returned (.int .i64 (dotN a b)) ∧ w = w' := by
  have K := Lib.hid (vec_dot A A2 a b c c2 B w hA hA2 (dotE_ok h).1 (dotE_ok h).2.1 (dotE_ok h).2.2.1 (dotE_ok h).2.2.2)
  have HN : Hid (dotN a b = dotI a b a.length) := by show _ = _; unfold dotN; rw [if_pos h]
  generalize dotI a b a.length = z at *
  generalize dotN a b = q at *
  clear hA hA2 h
  generalize a.length = N at *
  generalize b.length = M at *
  go_enter Try.func101, Try.ntmps101
  go_wp2_with fail
  refine K.out.mono ?_
  rintro e w1 ⟨rfl, rfl⟩
  go_wp2
  go_ret
  exact ⟨ret1i HN.out.symm, rfl⟩
theorem below_of_alloc2 {w w' : World} {o : Obj} (h : Below w.heap.size (w.alloc o) w') : Below w.heap.size w w' := ((Below.refl _ _).alloc (Nat.le_refl _) o).trans h
theorem chkV_iff {R : List Row} {d : Int} : chkV R d = 0 ↔ 0 < R.length ∧ allV R d = true := by
  unfold chkV
  by_cases h0 : R.length = 0
  · rw [if_pos h0]; simp; omega
  · rw [if_neg h0]
    cases allV R d <;> simp <;> omega
theorem chkV_or (R : List Row) (d : Int) : chkV R d = 0 ∨ chkV R d = 80 := by
  unfold chkV
  split
  · right; rfl
  · split
    · left; rfl
    · right; rfl
set_option maxRecDepth 100000 in
set_option maxHeartbeats 4000000 in
theorem vec_Reach (A A2 : Option Addr) (a : List Int) (R : List Row) (c c2 : Nat) (w : World) (hA : Lies w w.heap.size A a) (hA2 : LiesR w w.heap.size A2 R) (hR : OkR R) (hla : (a.length : Int) ≤ 9223372036854775807) (hl : (R.length : Int) ≤ 9223372036854775807) (hca : a.length ≤ c) (hc2 : R.length ≤ c2) :
    Calls Try.prog 74 #[.slice A a.length c, .slice A2 R.length c2] w fun e w' => e = .returned (.tuple #[.int .i64 (reachLo a R), .int .i64 (reachHi a R), .int .i64 (reachC a R)]) ∧ Below w.heap.size w w' := by
  obtain ⟨W, hW⟩ : ∃ W, W = w.alloc (.cells #[.slice A a.length c] 35) := ⟨_, rfl⟩
  have hb0 : Below w.heap.size w W := by rw [hW]; exact (Below.refl _ _).alloc (Nat.le_refl _) _
  have hAW : Lies W w.heap.size A a := hA.below hb0
  have hRW : LiesR W w.heap.size A2 R := hA2.below hb0
  have hx0 : Box W w.heap.size #[.slice A a.length c] 35 := by rw [hW]; exact Box.new w _ _
  have K1 := Lib.hid (vec_parts A a c w.heap.size a.length W hAW hla hca)
  have K2 := Lib.hid (fun n => vec_check A2 R c2 w.heap.size a.length (W.drewN n) hRW hR hl)
  by_cases hE : reachE a R = true
  · obtain ⟨h0, hall⟩ := reachE_iff.1 hE
    have hp : partsV a a.length = true := (dotE_iff.1 (hall 0 h0)).1
    have hch : chkV R a.length = 0 := chkV_iff.2 ⟨h0, allV_iff.2 fun j hj => (dotE_iff.1 (hall j hj)).2⟩
    rw [hp] at K1
    rw [hch] at K2
    obtain ⟨r0, R', rfl⟩ : ∃ r0 R', R = r0 :: R' := by cases R with | nil => simp at h0 | cons r R' => exact ⟨r, R', rfl⟩
    have h00 := hall 0 (by simp)
    simp only [List.getD_cons_zero] at h00
    have hdn : ∀ j, j < R'.length → dotE a (R'.getD j row0).l = true := fun j hj => by
      have := hall (j + 1) (by simp; omega)
      simpa using this
    have hLo : Hid (reachLo a (r0 :: R') = loL (dotN a r0.l) (R'.map fun r => dotN a r.l)) := by
      show _ = _
      unfold reachLo; rw [if_pos hE]; rfl
    have hHi : Hid (reachHi a (r0 :: R') = hiL (dotN a r0.l) (R'.map fun r => dotN a r.l)) := by
      show _ = _
      unfold reachHi; rw [if_pos hE]; rfl
    have hCo : Hid (reachC a (r0 :: R') = 0) := by
      show _ = _
      unfold reachC; rw [if_pos hE]
    generalize reachLo a (r0 :: R') = qlo at *
    generalize reachHi a (r0 :: R') = qhi at *
    generalize reachC a (r0 :: R') = qc at *
    obtain ⟨ad, rfl, hadb, hcell, hlies⟩ := hRW.at (k := 0) (by simp)
    simp only [List.getD_cons_zero] at hcell hlies
    have hcell' : W.cell? ad = some (.slice r0.a r0.l.length r0.c) := by rw [add_zero'] at hcell; exact hcell
    have hcut := liesR_cut hRW 1 (by simp) hc2
    rw [List.drop_succ_cons, List.drop_zero] at hcut
    have hxc : W.cell? ⟨w.heap.size, 0, none⟩ = some (.slice A a.length c) := by have := hx0.cell 0; simpa using this
    have KD := Lib.hid (fun W2 (h : ∃ n, W2 = W.drewN n) => vec_dot A r0.a a r0.l c r0.c w.heap.size W2 (by obtain ⟨n, rfl⟩ := h; exact hAW) (by obtain ⟨n, rfl⟩ := h; exact hlies) (dotE_ok h00).1 (dotE_ok h00).2.1 (dotE_ok h00).2.2.1 (dotE_ok h00).2.2.2)
    have hd0 : dotI a r0.l a.length = dotN a r0.l := by unfold dotN; rw [if_pos h00]
    simp only [hd0] at KD
    obtain ⟨M, hM⟩ : ∃ M, M = (r0 :: R').length := ⟨_, rfl⟩
    have hr : R'.length = M - 1 := by rw [hM]; rfl
    have KE := Lib.hid (fun A3 W2 (hw : ∃ n, W2 = W.drewN n) (h : LiesR W w.heap.size A3 R') lo hi => hr ▸ ext_reach (ptr w.heap.size 0) (fun r => dotN a r.l) A3 R' (c2 - 1) w.heap.size lo hi W2 (by obtain ⟨n, rfl⟩ := hw; exact h) (by simp at hl; omega) (fun n2 j hj => (reach1 A _ a _ c _ w.heap.size w.heap.size (W2.drewN n2) (by obtain ⟨n, rfl⟩ := hw; exact hxc) (by obtain ⟨n, rfl⟩ := hw; exact hAW) (by obtain ⟨n, rfl⟩ := hw; exact hcut.2 _ (getD_mem hj)) (hdn j hj)).mono fun e w' hh => ⟨hh.1, 0, hh.2.symm⟩))
    rw [← hM] at hc2 hl K2 ⊢
    have g4 : (M : Int) ≤ (c2 : Int) := by omega
    have g5 : 0 < M := by omega
    have g6 : (1 : Int) ≤ M := by omega
    generalize (R'.map fun r => dotN a r.l) = D at *
    generalize dotN a r0.l = d0 at *
    obtain ⟨ra, rl, rc⟩ := r0
    simp only at hcell hcell' KD
    generalize rl.length = L0 at *
    by_cases h1 : c2 = 1
    · rw [if_pos h1] at hcut
      have HC := Lib.hid hcut
      clear hcut hE hall hp hch hdn hr hM hA hA2 hAW hRW hR hd0 h00 hlies h0
      subst h1
      obtain rfl : M = 1 := by omega
      generalize a.length = N at *
      go_enter Try.func74, Try.ntmps74
      go_wp2_with fail
      rw [← hW]
      have HWW := Lib.hid hW
      clear hW
      refine K1.out.mono ?_
      rintro e w1 ⟨rfl, n1, rfl⟩
      go_wp2_with fail
      refine (K2.out _).mono ?_
      rintro e w2 ⟨rfl, hw2⟩
      have hw3 : ∃ n, w2 = W.drewN n := by obtain ⟨n, rfl⟩ := hw2; exact ⟨_, by first | rfl | exact World.drewN_drewN _ _ _⟩
      have HW2 := Lib.hid hw3
      have hxc2 : w2.cell? ⟨w.heap.size, 0, none⟩ = some (.slice A N c) := by obtain ⟨n, rfl⟩ := hw3; exact hxc
      have hcell2 : w2.cell? (ad.add 0) = some (.slice ra L0 rc) := by obtain ⟨n, rfl⟩ := hw3; exact hcell
      have hcell2' : w2.cell? ad = some (.slice ra L0 rc) := by obtain ⟨n, rfl⟩ := hw3; exact hcell'
      clear hw2 hw3
      go_wp2
      go_quiet ((go_at_call 99; exact Calls.quiet_of_same (still_of (KD.out _ (by obtain ⟨n, hn⟩ := HW2.out; rw [hn]; exact dre2' _ _ _)))))
      go_wp2_with fail
      refine (KE.out _ _ (by obtain ⟨n, hn⟩ := HW2.out; rw [hn]; exact dre2' _ _ _) HC.out _ _).mono ?_
      rintro e w3 ⟨rfl, n3, rfl⟩
      go_wp2
      go_ret3
      exact ⟨ret3i hLo.out.symm hHi.out.symm hCo.out.symm, below_drewN2 (by obtain ⟨n, hn⟩ := HW2.out; rw [hn]; exact below_drewN2 hb0 _) _⟩
    · rw [if_neg h1] at hcut
      have HC := Lib.hid hcut
      clear hcut hE hall hp hch hdn hr hM hA hA2 hAW hRW hR hd0 h00 hlies h0
      generalize a.length = N at *
      go_enter Try.func74, Try.ntmps74
      go_wp2_with fail
      rw [← hW]
      have HWW := Lib.hid hW
      clear hW
      refine K1.out.mono ?_
      rintro e w1 ⟨rfl, n1, rfl⟩
      go_wp2_with fail
      refine (K2.out _).mono ?_
      rintro e w2 ⟨rfl, hw2⟩
      have hw3 : ∃ n, w2 = W.drewN n := by obtain ⟨n, rfl⟩ := hw2; exact ⟨_, by first | rfl | exact World.drewN_drewN _ _ _⟩
      have HW2 := Lib.hid hw3
      have hxc2 : w2.cell? ⟨w.heap.size, 0, none⟩ = some (.slice A N c) := by obtain ⟨n, rfl⟩ := hw3; exact hxc
      have hcell2 : w2.cell? (ad.add 0) = some (.slice ra L0 rc) := by obtain ⟨n, rfl⟩ := hw3; exact hcell
      have hcell2' : w2.cell? ad = some (.slice ra L0 rc) := by obtain ⟨n, rfl⟩ := hw3; exact hcell'
      clear hw2 hw3
      go_wp2
      go_quiet ((go_at_call 99; exact Calls.quiet_of_same (still_of (KD.out _ (by obtain ⟨n, hn⟩ := HW2.out; rw [hn]; exact dre2' _ _ _)))))
      go_wp2_with fail
      refine (KE.out _ _ (by obtain ⟨n, hn⟩ := HW2.out; rw [hn]; exact dre2' _ _ _) HC.out _ _).mono ?_
      rintro e w3 ⟨rfl, n3, rfl⟩
      go_wp2
      go_ret3
      exact ⟨ret3i hLo.out.symm hHi.out.symm hCo.out.symm, below_drewN2 (by obtain ⟨n, hn⟩ := HW2.out; rw [hn]; exact below_drewN2 hb0 _) _⟩
  · have hLo : Hid (reachLo a R = 0) := by show _ = _; unfold reachLo; rw [if_neg hE]
    have hHi : Hid (reachHi a R = 0) := by show _ = _; unfold reachHi; rw [if_neg hE]
    have hCo : Hid (reachC a R = 80) := by show _ = _; unfold reachC; rw [if_neg hE]
    have hxc : W.cell? ⟨w.heap.size, 0, none⟩ = some (.slice A a.length c) := by have := hx0.cell 0; simpa using this
    have HCH : Hid (partsV a a.length = true → chkV R a.length = 80) := fun h => by
      rcases chkV_or R a.length with g | g
      · exfalso
        obtain ⟨g1, g2⟩ := chkV_iff.1 g
        exact hE (by unfold reachE; rw [h, g2, decide_eq_true g1]; rfl)
      · exact g
    generalize reachLo a R = qlo at *
    generalize reachHi a R = qhi at *
    generalize reachC a R = qc at *
    generalize chkV R a.length = ch at *
    generalize partsV a a.length = pv at *
    clear hA hA2 hAW hRW hE hR
    generalize a.length = N at *
    generalize R.length = M at *
    cases pv
    · go_enter Try.func74, Try.ntmps74
      go_wp2_with fail
      rw [← hW]
      have HWW := Lib.hid hW
      clear hW
      refine K1.out.mono ?_
      rintro e w1 ⟨rfl, n1, rfl⟩
      go_wp2
      go_ret3
      exact ⟨ret3i hLo.out.symm hHi.out.symm hCo.out.symm, below_drewN2 hb0 _⟩
    · obtain rfl : ch = 80 := HCH.out rfl
      go_enter Try.func74, Try.ntmps74
      go_wp2_with fail
      rw [← hW]
      have HWW := Lib.hid hW
      clear hW
      refine K1.out.mono ?_
      rintro e w1 ⟨rfl, n1, rfl⟩
      go_wp2_with fail
      refine (K2.out _).mono ?_
      rintro e w1 ⟨rfl, n2, rfl⟩
      go_wp2
      go_ret3
      exact ⟨ret3i hLo.out.symm hHi.out.symm hCo.out.symm, below_drewN2 hb0 _⟩
end Go.Proofs.Ytkkeejbgaaodeaa
/-! Near: the reference's and package vec's. -/
namespace Go.Proofs.Ytkkeejbgaaodeaa
open Go.RowKit
set_option linter.unusedVariables false
set_option linter.unusedSimpArgs false

def nearE (R : List Row) (x : List Int) : Bool := isV x x.length && (allV R x.length && decide (0 < R.length))
def gapR (R : List Row) (x : List Int) (k : Nat) : Int := gapNN (R.getD k row0).l x
def nearAt (R : List Row) (x : List Int) : Int := if nearE R x then (nearG (gapR R x) R.length).1 else 0
def nearFar (R : List Row) (x : List Int) : Int := if nearE R x then (nearG (gapR R x) R.length).2 else 0
def nearC (R : List Row) (x : List Int) : Int := if nearE R x then 0 else 80
theorem gapE_iff2 {a b : List Int} : gapE a b = true ↔ isV b b.length = true ∧ isV a b.length = true := by
  unfold gapE; rw [Bool.and_eq_true]; exact And.comm
theorem nearE_iff {R : List Row} {x : List Int} : nearE R x = true ↔ 0 < R.length ∧ ∀ j, j < R.length → gapE (R.getD j row0).l x = true := by
  unfold nearE
  simp only [Bool.and_eq_true, decide_eq_true_eq, allV_iff, gapE_iff2]
  constructor
  · rintro ⟨h1, h2, h3⟩; exact ⟨h3, fun j hj => ⟨h1, h2 j hj⟩⟩
  · rintro ⟨h1, h2⟩; exact ⟨(h2 0 h1).1, fun j hj => (h2 j hj).2, h1⟩
theorem nearE_no {R : List Row} {x : List Int} {k : Nat} (hk : k < R.length) (h : gapE (R.getD k row0).l x = false) : nearE R x = false := by
  rw [Bool.eq_false_iff]; intro g
  rw [(nearE_iff.1 g).2 k hk] at h; cases h
/-- which is nearest so far, as the reference goes; -1 ahead of all -/
def nrS (g : Nat → Int) : Nat → Int × Int
  | 0 => (-1, 0)
  | k + 1 => if k = 0 ∨ g k < (nrS g k).2 then ((k : Int), g k) else nrS g k
theorem nrS_eq (g : Nat → Int) : ∀ k, nrS g (k + 1) = (((nearG g (k + 1)).1 : Int), (nearG g (k + 1)).2)
  | 0 => by
    rw [nearG_one]
    simp [nrS]
  | k + 1 => by
    have ih := nrS_eq g k
    rw [show nrS g (k + 1 + 1) = if k + 1 = 0 ∨ g (k + 1) < (nrS g (k + 1)).2 then (((k + 1 : Nat) : Int), g (k + 1)) else nrS g (k + 1) from rfl,
      show nearG g (k + 1 + 1) = if g (k + 1) < (nearG g (k + 1)).2 then (k + 1, g (k + 1)) else nearG g (k + 1) from rfl, ih]
    by_cases h : g (k + 1) < (nearG g (k + 1)).2
    · rw [if_pos (.inr h), if_pos h]
    · rw [if_neg (fun hh => hh.elim (by omega) h), if_neg h]
theorem nrS_neg (g : Nat → Int) {k : Nat} (h : 0 < k) : 0 ≤ (nrS g k).1 := by
  obtain ⟨j, rfl⟩ : ∃ j, k = j + 1 := ⟨k - 1, by omega⟩
  rw [nrS_eq]; simp
theorem if_or0p {k : Nat} (h : ¬ k = 0) (p : Prop) [Decidable p] (x y : Int × Int) : (if k = 0 ∨ p then x else y) = if p then x else y := by
  by_cases g : p
  · rw [if_pos (.inr g), if_pos g]
  · rw [if_neg (fun hh => hh.elim h g), if_neg g]
end Go.Proofs.Ytkkeejbgaaodeaa
/-! Package vec: copied, the closure of Box; rows of the call's own that are stored into. -/
namespace Go.Proofs.Ytkkeejbgaaodeaa
open Go.RowKit
set_option linter.unusedVariables false
set_option linter.unusedSimpArgs false

/-- block g holds the numbers l at its head -/
def OwnI (w : World) (g : Nat) (l : List Int) : Prop := ∃ cs : Array Value, w.heap[g]? = some (.cells cs 3 (0, 0)) ∧ cs.toList.take l.length = litI l
theorem OwnI.lt {w : World} {g : Nat} {l : List Int} (h : OwnI w g l) : g < w.heap.size := by
  obtain ⟨cs, hh, _⟩ := h
  rcases Nat.lt_or_ge g w.heap.size with h | h
  · exact h
  · rw [Array.getElem?_eq_none h] at hh; cases hh
theorem OwnI.cell {w : World} {g : Nat} {l : List Int} (h : OwnI w g l) {k : Nat} (hk : k < l.length) : w.cell? ⟨g, k, none⟩ = some (.int .i64 (l.getD k 0)) := by
  obtain ⟨cs, hh, hx⟩ := h
  refine (cell_of_row w g k _ _ (0, 0) hh).trans ?_
  rw [← litI_get l k hk, ← hx, List.getElem?_take, if_pos hk]
  simp
theorem OwnI.free {w : World} {g : Nat} {l : List Int} (h : OwnI w g l) (k : Nat) : w.frozen? ⟨g, k, none⟩ = false := by
  obtain ⟨cs, hh, _⟩ := h
  exact Box.free (cs := cs) (t := 3) hh k
theorem OwnI.below {w w' : World} {g B : Nat} {l : List Int} (h : OwnI w g l) (hb : Below B w w') (hg : g < B) : OwnI w' g l := by
  obtain ⟨cs, hh, hx⟩ := h
  exact ⟨cs, (hb.block g hg).trans hh, hx⟩
theorem OwnI.off {w : World} {g : Nat} {l : List Int} (h : OwnI w g l) {p : Addr} (hp : p.block ≠ g) (u : Value) : OwnI (w.setCell p u) g l := by
  obtain ⟨cs, hh, hx⟩ := h
  exact ⟨cs, Box.off (t := 3) hh hp u, hx⟩
theorem OwnI.set {w : World} {g : Nat} {l : List Int} (h : OwnI w g l) {k : Nat} (hk : k < l.length) (x : Int) : OwnI (w.setCell ⟨g, k, none⟩ (.int .i64 x)) g (l.set k x) := by
  obtain ⟨cs, hh, hx⟩ := h
  refine ⟨cs.setIfInBounds k (.int .i64 x), Box.set (t := 3) hh k _, ?_⟩
  rw [List.length_set, Array.toList_setIfInBounds, List.take_set, hx]
  unfold litI
  rw [List.map_set]
theorem OwnI.drewN {w : World} {g : Nat} {l : List Int} (h : OwnI w g l) (n : Nat) : OwnI (w.drewN n) g l := h
theorem OwnI.alloc {w : World} {g : Nat} {l : List Int} (h : OwnI w g l) (o : Obj) : OwnI (w.alloc o) g l := h.below ((Below.refl _ _).alloc (Nat.le_refl _) o) h.lt
theorem OwnI.lies {w : World} {g : Nat} {l : List Int} (h : OwnI w g l) : Lies w w.heap.size (some ⟨g, 0, none⟩) l := fun _ => by
  refine ⟨⟨g, 0, none⟩, rfl, h.lt, fun j hj => ?_⟩
  have h1 : (⟨g, 0, none⟩ : Addr).add j = ⟨g, j, none⟩ := by unfold Addr.add; split <;> simp_all
  rw [h1]; exact h.cell hj
theorem own_to {w : World} {B : Nat} {v : Value} {l : List Int} (h : w.ownsRow B 3 1 v l.length (litI l)) (h0 : 0 < l.length) :
    ∃ g c, v = .slice (some ⟨g, 0, none⟩) l.length c ∧ B ≤ g ∧ l.length ≤ c ∧ OwnI w g l := by
  rcases h.2 with ⟨rfl, h1⟩ | ⟨g, cap, cur, rfl, hb, hh, hnc, hm, hsz, hx⟩
  · omega
  · exact ⟨g, cap, rfl, hb, hnc, cur, hh, by simpa using hx⟩
/-- a copy of a list, onto nothing -/
theorem app_copy {wr : World} {ops : Array Oper} {rest : List Oper} {o : Oper} {a : Act} {Q : Exit → Act → World → Prop} (hgd : o.guard = none) (s x : Operand)
    (ho : o.op = .call { callee := .builtin .append, args := #[s, x], argTypes := #[35, 35] })
    (ad0 ad : Addr) (l : List Int) (N c : Nat) (hN : l.length = N) (hs : a.eval s = .slice (some ad0) 0 0) (hx : a.eval x = .slice (some ad) N c)
    (hc : ∀ j, j < l.length → wr.cell? (ad.add j) = some (.int .i64 (l.getD j 0))) (h0 : 0 < N) (hl : N ≤ 1000)
    (h : ∀ g c' w', N ≤ c' → OwnI w' g l → wr.heap.size ≤ g → Below wr.heap.size wr w' → wpList Try.prog ops Q rest (a.put o.dst (.slice (some ⟨g, 0, none⟩) N c')) w') :
    wpList Try.prog ops Q (o :: rest) a wr := by
  subst hN
  obtain ⟨i0, hi, hz0, hz1, hz2⟩ := info_parts infoI
  refine wpList_append_grows _ hgd s x 35 ho 3 i0 (.int .i64 0) 1 8 Try.underlying35 hi hz0 hz1 hz2 rfl (by decide) (some ad0) 0 0 [] hs (fun h => by cases h) rfl (fun _ _ j u h => by simp at h) ad l.length c (litI l) hx (by rw [litI_len]; omega) ?_ ?_ (by omega) (by unfold maxLen; omega) (by omega) ?_
  · intro j u hj
    have hjl : j < l.length := by
      rcases Nat.lt_or_ge j l.length with h1 | h1
      · exact h1
      · rw [List.getElem?_eq_none (by rw [litI_len]; exact h1)] at hj; cases hj
    rw [litI_get _ _ hjl] at hj
    rw [← hj]; exact hc j hjl
  · intro u hu
    unfold litI at hu
    obtain ⟨y, _, rfl⟩ := List.mem_map.1 hu; rfl
  · intro v' w' h1 h2
    rw [Nat.zero_add, List.nil_append] at h1
    obtain ⟨g, c', rfl, hg, hc', ho'⟩ := own_to h1 h0
    exact h g c' w' hc' ho' hg ((Below.refl _ _).grown h2 (Nat.le_refl _) (fun k hk => by cases hk))
set_option maxRecDepth 100000 in
set_option maxHeartbeats 2000000 in
theorem vec_copied (A : Option Addr) (l : List Int) (c B : Nat) (w : World) (hA : Lies w B A l) (h0 : 0 < l.length) (hl : l.length ≤ 1000) (hc : l.length ≤ c) :
    Calls Try.prog 120 #[.slice A l.length c] w fun e w' => ∃ g, e = .returned (.slice (some ⟨g, 0, none⟩) l.length l.length) ∧ w.heap.size ≤ g ∧ OwnI w' g l ∧ Below w.heap.size w w' := by
  obtain ⟨ad, rfl, _, hcell⟩ := hA h0
  have HC := Lib.hid hcell
  have HL := Lib.hid hl
  have H0 := Lib.hid h0
  clear hA hcell
  have hlc : ((l.length : Nat) : Int) ≤ (c : Int) := by omega
  generalize hN : l.length = N at *
  have HN := Lib.hid hN
  clear hN
  go_enter Try.func120, Try.ntmps120
  go_wp2_with (at_builtin; refine app_copy rfl (.tmp 5) (.tmp 6) rfl _ ad l N c HN.out rfl rfl (fun j hj => HC.out j (by have := HN.out; omega)) H0.out HL.out ?_; intro g c' w1 hc' ho hg hb; have hcc : (N : Int) ≤ (c' : Int) := by omega)
  go_ret
  exact ⟨g, rfl, hg, ho, hb⟩

theorem len23 {vs : List Value} (h : vs.length = 23) : ∃ y0 y1 y2 y3 y4 y5 y6 y7 y8 y9 y10 y11 y12 y13 y14 y15 y16 y17 y18 y19 y20 y21 y22, vs = [y0, y1, y2, y3, y4, y5, y6, y7, y8, y9, y10, y11, y12, y13, y14, y15, y16, y17, y18, y19, y20, y21, y22] := by
  match vs, h with
  | [y0, y1, y2, y3, y4, y5, y6, y7, y8, y9, y10, y11, y12, y13, y14, y15, y16, y17, y18, y19, y20, y21, y22], _ => exact ⟨y0, y1, y2, y3, y4, y5, y6, y7, y8, y9, y10, y11, y12, y13, y14, y15, y16, y17, y18, y19, y20, y21, y22, rfl⟩
/-- the values of a region's operations, as far as they were carried out -/
def RegV (E : List (Option Value)) (f : Nat → Bool) (vs : List Value) : Prop := ∀ j u, f j = true → E[j]? = some (some u) → vs.getD j undef = u
theorem RegV.set {E : List (Option Value)} {f : Nat → Bool} {vs : List Value} (h : RegV E f vs) {i : Nat} (hi : i < vs.length) {v : Value} (hv : ∀ u, E[i]? = some (some u) → v = u) : RegV E (fun j => if j = i then true else f j) (vs.set i v) := by
  intro j u hj he
  by_cases g : j = i
  · subst g
    rw [List.getD_eq_getElem?_getD, List.getElem?_set_self hi]
    exact hv u he
  · dsimp only at hj
    rw [if_neg g] at hj
    rw [List.getD_eq_getElem?_getD, List.getElem?_set_ne (fun e => g e.symm), ← List.getD_eq_getElem?_getD]
    exact h j u hj he
/-- what is there in the middle of Box's exchange -/
def BoxJ (B : Nat) (W : World) (ga gb gx k : Nat) (lo lo' hi hi' : List Int) (E : List (Option Value)) (f : Nat → Bool) (vs : List Value) (w : World) : Prop :=
  RegV E f vs ∧ (Below B W w ∧ B ≤ w.heap.size) ∧ w.cell? ⟨gx, 0, none⟩ = some (.int .i64 k) ∧ OwnI w ga (cond (f 20) lo' lo) ∧ OwnI w gb (cond (f 22) hi' hi) ∧ (f 20 = true → f 7 = true) ∧ (f 22 = true → f 11 = true)
theorem BoxJ.alike {B : Nat} {W : World} {ga gb gx k : Nat} {lo lo' hi hi' : List Int} {E : List (Option Value)} (hE : E.length = 23) (f g : Nat → Bool) (vs : List Value) (w : World) (hfg : ∀ k, k < 23 → f k = g k) (hj : BoxJ B W ga gb gx k lo lo' hi hi' E f vs w) : BoxJ B W ga gb gx k lo lo' hi hi' E g vs w := by
  obtain ⟨h1, h2⟩ := hj
  unfold BoxJ
  rw [← hfg 20 (by omega), ← hfg 22 (by omega), ← hfg 7 (by omega), ← hfg 11 (by omega)]
  refine ⟨fun j u hj he => h1 j u ?_ he, h2⟩
  rw [hfg j]; exact hj
  rcases Nat.lt_or_ge j E.length with h | h
  · omega
  · rw [List.getElem?_eq_none h] at he; cases he
theorem BoxJ.step {B : Nat} {W : World} {ga gb gx k : Nat} {lo lo' hi hi' : List Int} {E : List (Option Value)} {f : Nat → Bool} {vs : List Value} {w : World} (hj : BoxJ B W ga gb gx k lo lo' hi hi' E f vs w) {i : Nat} (hi0 : i < vs.length) (h20 : ¬ 20 = i) (h22 : ¬ 22 = i) {v : Value} (hv : ∀ u, E[i]? = some (some u) → v = u) {w' : World} (hw : ∃ n, w' = w.drewN n) :
    BoxJ B W ga gb gx k lo lo' hi hi' E (fun j => if j = i then true else f j) (vs.set i v) w' := by
  obtain ⟨n, rfl⟩ := hw
  obtain ⟨h1, ⟨h2, h2'⟩, h3, h4, h5, h6, h7⟩ := hj
  refine ⟨h1.set hi0 hv, ⟨below_drewN2 h2 n, h2'⟩, h3, ?_, ?_, ?_, ?_⟩
  · simpa [h20] using h4.drewN n
  · simpa [h22] using h5.drewN n
  · simp only [h20, if_false]
    intro h
    rw [h6 h]; simp
  · simp only [h22, if_false]
    intro h
    rw [h7 h]; simp
theorem BoxJ.store1 {B : Nat} {W : World} {ga gb gx k : Nat} {lo hi hi' : List Int} {x : Int} {E : List (Option Value)} {f : Nat → Bool} {vs : List Value} {w : World} (hj : BoxJ B W ga gb gx k lo (lo.set k x) hi hi' E f vs w) (hi0 : 20 < vs.length) (hf : f 20 = false) (h7 : f 7 = true) {v : Value} (hv : ∀ u, E[20]? = some (some u) → v = u) (hk : k < lo.length) (hab : ga ≠ gb) (hax : ga ≠ gx) (hB : B ≤ ga) :
    BoxJ B W ga gb gx k lo (lo.set k x) hi hi' E (fun j => if j = 20 then true else f j) (vs.set 20 v) (w.setCell ⟨ga, k, none⟩ (.int .i64 x)) := by
  obtain ⟨h1, ⟨h2, h2'⟩, h3, h4, h5, h6, h8⟩ := hj
  rw [hf] at h4
  refine ⟨h1.set hi0 hv, ⟨h2.setCell (p := ⟨ga, k, none⟩) hB _, by simpa using h2'⟩, ?_, ?_, ?_, ?_, ?_⟩
  · rw [World.cell?_setCell_other w ⟨ga, k, none⟩ ⟨gx, 0, none⟩ _ (fun e => hax (congrArg Addr.block e))]; exact h3
  · simpa using h4.set hk x
  · simpa using h5.off (p := ⟨ga, k, none⟩) hab _
  · intro _; simpa using h7
  · simpa using h8
theorem BoxJ.store2 {B : Nat} {W : World} {ga gb gx k : Nat} {lo lo' hi : List Int} {x : Int} {E : List (Option Value)} {f : Nat → Bool} {vs : List Value} {w : World} (hj : BoxJ B W ga gb gx k lo lo' hi (hi.set k x) E f vs w) (hi0 : 22 < vs.length) (hf : f 22 = false) (h7 : f 11 = true) {v : Value} (hv : ∀ u, E[22]? = some (some u) → v = u) (hk : k < hi.length) (hab : gb ≠ ga) (hax : gb ≠ gx) (hB : B ≤ gb) :
    BoxJ B W ga gb gx k lo lo' hi (hi.set k x) E (fun j => if j = 22 then true else f j) (vs.set 22 v) (w.setCell ⟨gb, k, none⟩ (.int .i64 x)) := by
  obtain ⟨h1, ⟨h2, h2'⟩, h3, h4, h5, h6, h8⟩ := hj
  rw [hf] at h5
  refine ⟨h1.set hi0 hv, ⟨h2.setCell (p := ⟨gb, k, none⟩) hB _, by simpa using h2'⟩, ?_, ?_, ?_, ?_, ?_⟩
  · rw [World.cell?_setCell_other w ⟨gb, k, none⟩ ⟨gx, 0, none⟩ _ (fun e => hax (congrArg Addr.block e))]; exact h3
  · simpa using h4.off (p := ⟨gb, k, none⟩) hab _
  · simpa using h5.set hk x
  · simpa using h6
  · intro _; simpa using h7
end Go.Proofs.Ytkkeejbgaaodeaa
/-! Package vec: Box. -/
namespace Go.Proofs.Ytkkeejbgaaodeaa
open Go.RowKit
set_option linter.unusedVariables false
set_option linter.unusedSimpArgs false

def colL (R : List Row) (j : Nat) : Int := loL ((R.getD 0 row0).l.getD j 0) (R.tail.map fun r => r.l.getD j 0)
def colH (R : List Row) (j : Nat) : Int := hiL ((R.getD 0 row0).l.getD j 0) (R.tail.map fun r => r.l.getD j 0)
def boxE (R : List Row) (d : Int) : Bool := allV R d && decide (0 < R.length)
def boxLo (R : List Row) (d : Int) : List Int := if boxE R d then (List.range d.toNat).map (colL R) else []
def boxHi (R : List Row) (d : Int) : List Int := if boxE R d then (List.range d.toNat).map (colH R) else []
def boxC (R : List Row) (d : Int) : Int := if boxE R d then 0 else 80
/-- the first k columns are as they shall be, the others still the first row's -/
def mixI (F G : Nat → Int) (D k : Nat) : List Int := (List.range D).map fun j => if j < k then F j else G j
theorem mixI_len (F G : Nat → Int) (D k : Nat) : (mixI F G D k).length = D := by simp [mixI]
theorem mixI_get {F G : Nat → Int} {D k : Nat} (h : k < D) : (mixI F G D k).getD k 0 = G k := by
  unfold mixI
  rw [List.getD_eq_getElem?_getD, List.getElem?_map, List.getElem?_range h]
  simp
theorem mixI_set {F G : Nat → Int} {D k : Nat} (h : k < D) : (mixI F G D k).set k (F k) = mixI F G D (k + 1) := by
  refine List.ext_getElem (by simp [mixI]) fun j h1 h2 => ?_
  rw [List.getElem_set]
  simp only [mixI, List.getElem_map, List.getElem_range]
  by_cases g : k = j
  · subst g; simp
  · rw [if_neg g]
    by_cases g2 : j < k
    · rw [if_pos g2, if_pos (by omega)]
    · rw [if_neg g2, if_neg (by omega)]
theorem mixI_end (F G : Nat → Int) (D : Nat) : mixI F G D D = (List.range D).map F := by
  unfold mixI
  refine List.map_congr_left fun j hj => ?_
  rw [if_pos (List.mem_range.1 hj)]
theorem mixI_zero (F : Nat → Int) (l : List Int) : mixI F (fun j => l.getD j 0) l.length 0 = l := by
  refine List.ext_getElem (by simp [mixI]) fun j h1 h2 => ?_
  simp only [mixI, List.getElem_map, List.getElem_range]
  rw [if_neg (by omega), List.getD_eq_getElem?_getD, List.getElem?_eq_getElem h2]; rfl
/-- two rows of numbers, each of the call's own -/
def GivesBox (R : List Row) (d : Int) (w : World) (e : Ending) (w' : World) : Prop :=
  ∃ A c A2 c2, e = .returned (.tuple #[.slice A (boxLo R d).length c, .slice A2 (boxHi R d).length c2, .int .i64 (boxC R d)]) ∧ (boxLo R d).length ≤ c ∧ (boxHi R d).length ≤ c2 ∧ Lies w' w'.heap.size A (boxLo R d) ∧ Lies w' w'.heap.size A2 (boxHi R d) ∧ Below w.heap.size w w'

theorem box1 (A : Option Addr) (l : List Int) (c B g k : Nat) (w : World) (hx : w.cell? ⟨g, 0, none⟩ = some (.int .i64 k)) (hA : Lies w B A l) (hk : k < l.length) :
    Calls Try.prog 121 #[.slice A l.length c, ptr g 0] w fun e w' => e = .returned (.int .i64 (l.getD k 0)) ∧ w = w' := by
  obtain ⟨ad, rfl, _, hcell⟩ := hA.at (k := k) hk
  have hk2 : (k : Int) < (l.length : Int) := by omega
  generalize l.getD k 0 = z at *
  clear hA
  generalize l.length = N at *
  go_enter Try.func121, Try.ntmps121
  go_wp2
  go_ret
  exact ⟨rfl, rfl⟩

/-- what was copied so far, in blocks of the call's own -/
def Cop (B : Nat) (W : World) (l : List Int) (gs : List Nat) (w : World) : Prop := Below B W w ∧ B ≤ w.heap.size ∧ gs.Nodup ∧ ∀ g ∈ gs, B ≤ g ∧ OwnI w g l
theorem Cop.push {B : Nat} {W w w' : World} {l : List Int} {gs : List Nat} (h : Cop B W l gs w) {g : Nat} (hg : w.heap.size ≤ g) (ho : OwnI w' g l) (hb : Below w.heap.size w w') : Cop B W l (g :: gs) w' := by
  obtain ⟨h1, h2, h3, h4⟩ := h
  refine ⟨h1.trans (hb.mono h2), Nat.le_trans h2 hb.size, List.nodup_cons.2 ⟨fun hm => ?_, h3⟩, fun x hx => ?_⟩
  · have := (h4 g hm).2.lt; omega
  · rcases List.mem_cons.1 hx with rfl | hx
    · exact ⟨by omega, ho⟩
    · exact ⟨(h4 x hx).1, (h4 x hx).2.below hb (h4 x hx).2.lt⟩
theorem Cop.b {B : Nat} {W w : World} {l : List Int} {gs : List Nat} (h : Cop B W l gs w) : Below B W w := h.1
theorem Cop.drew {B : Nat} {W w : World} {l : List Int} {gs : List Nat} (h : Cop B W l gs w) : Cop B W l gs w.drew := ⟨h.1.drew, h.2.1, h.2.2⟩

set_option maxRecDepth 100000 in
set_option maxHeartbeats 4000000 in
theorem vec_Box (A : Option Addr) (R : List Row) (c : Nat) (d : Int) (w : World) (hA : LiesR w w.heap.size A R) (hR : OkR R) (hl : (R.length : Int) ≤ 9223372036854775807) (hc : R.length ≤ c) :
    Calls Try.prog 93 #[.slice A R.length c, .int .i64 d] w (GivesBox R d w) := by
  have K1 := Lib.hid (vec_check A R c w.heap.size d w hA hR hl)
  by_cases hE : boxE R d = true
  · have hE2 := hE
    unfold boxE at hE2
    rw [Bool.and_eq_true, decide_eq_true_eq] at hE2
    obtain ⟨hall, h0⟩ := hE2
    have hch : chkV R d = 0 := chkV_iff.2 ⟨h0, hall⟩
    rw [hch] at K1
    have hLo : boxLo R d = (List.range d.toNat).map (colL R) := by unfold boxLo; rw [if_pos hE]
    have hHi : boxHi R d = (List.range d.toNat).map (colH R) := by unfold boxHi; rw [if_pos hE]
    have hCo : boxC R d = 0 := by unfold boxC; rw [if_pos hE]
    have hG : Hid (∀ e w', GivesBox R d w e w' ↔ ∃ A c A2 c2, e = .returned (.tuple #[.slice A ((List.range d.toNat).map (colL R)).length c, .slice A2 ((List.range d.toNat).map (colH R)).length c2, .int .i64 0]) ∧ ((List.range d.toNat).map (colL R)).length ≤ c ∧ ((List.range d.toNat).map (colH R)).length ≤ c2 ∧ Lies w' w'.heap.size A ((List.range d.toNat).map (colL R)) ∧ Lies w' w'.heap.size A2 ((List.range d.toNat).map (colH R)) ∧ Below w.heap.size w w') := fun e w' => by
      unfold GivesBox; rw [hLo, hHi, hCo]
    have hv := allV_iff.1 hall
    obtain ⟨ad, rfl, hadb, hcell, hlies⟩ := hA.at (k := 0) h0
    have hcell' : w.cell? ad = some (.slice (R.getD 0 row0).a (R.getD 0 row0).l.length (R.getD 0 row0).c) := by rw [add_zero'] at hcell; exact hcell
    obtain ⟨v1, v2, v3, _⟩ := isV_iff.1 (hv 0 h0)
    have h00 := (hR _ (getD_mem h0)).1
    obtain ⟨D, hD⟩ : ∃ D : Nat, D = (R.getD 0 row0).l.length := ⟨_, rfl⟩
    obtain rfl : d = (D : Int) := by rw [hD]; exact v3.symm
    have hDN : Hid (((D : Int)).toNat = D) := by show _ = _; omega
    have KC := Lib.hid (fun W (h : Lies W w.heap.size (R.getD 0 row0).a (R.getD 0 row0).l) => vec_copied (R.getD 0 row0).a (R.getD 0 row0).l (R.getD 0 row0).c w.heap.size W h (by omega) (by omega) h00)
    have HLI := Lib.hid (fun W (h : Below w.heap.size w W) => hlies.below h)
    have HAA := Lib.hid (fun W (h : Below w.heap.size w W) => hA.below h)
    have HM0 : Hid (∀ F : Nat → Int, mixI F (fun j => (R.getD 0 row0).l.getD j 0) D 0 = (R.getD 0 row0).l) := fun F => by rw [hD]; exact mixI_zero F _
    have HCL : Hid (∀ j, colL R j = loL ((R.getD 0 row0).l.getD j 0) (R.tail.map fun r => r.l.getD j 0)) := fun j => rfl
    have HCH : Hid (∀ j, colH R j = hiL ((R.getD 0 row0).l.getD j 0) (R.tail.map fun r => r.l.getD j 0)) := fun j => rfl
    have HROW : Hid (∀ j, j < R.tail.length → (R.tail.getD j row0).l.length = D) := fun j hj => by
      have h1 : R.tail.getD j row0 = R.getD (j + 1) row0 := by cases R <;> simp
      have h2 := (isV_iff.1 (hv (j + 1) (by rw [List.length_tail] at hj; omega))).2.2.1
      rw [h1]; omega
    have HCUT : Hid (∀ W, LiesR W w.heap.size (some ad) R → LiesR W w.heap.size (if c = 1 then some ad else (some ad).map (·.add 1)) R.tail) := fun W h => by
      have := liesR_cut h 1 (by omega) hc
      rw [List.drop_one] at this
      exact this
    have htl : Hid (R.tail.length = R.length - 1) := List.length_tail
    generalize (R.getD 0 row0).l = l0 at *
    generalize (R.getD 0 row0).a = a0 at *
    generalize (R.getD 0 row0).c = c0 at *
    rw [← hD] at hcell hcell' KC v3
    have HD := Lib.hid hD
    generalize hM : R.length = M at *
    have HM := Lib.hid hM
    have g4 : (M : Int) ≤ (c : Int) := by omega
    have g6 : (1 : Int) ≤ M := by omega
    clear hA hlies hE hall hch hLo hHi hCo hv hD hM v3 h00 hR
    have J0 := Lib.hid (show Cop w.heap.size w l0 [] w from ⟨Below.refl _ _, Nat.le_refl _, List.nodup_nil, fun g hg => by cases hg⟩)
    go_enter Try.func93, Try.ntmps93
    go_wp2_with fail
    refine K1.out.mono ?_
    rintro e w2 ⟨rfl, hw2⟩
    have J1 : Hid (Cop w.heap.size w l0 [] w2) := by obtain ⟨n, rfl⟩ := hw2; exact ⟨below_drewN2 (Below.refl _ _) n, Nat.le_refl _, List.nodup_nil, fun g hg => by cases hg⟩
    have hcell2 : w2.cell? (ad.add 0) = some (.slice a0 D c0) := by obtain ⟨n, rfl⟩ := hw2; exact hcell
    have hcell2' : w2.cell? ad = some (.slice a0 D c0) := by obtain ⟨n, rfl⟩ := hw2; exact hcell'
    have HB : Hid (∀ W, Below w.heap.size w W → W.cell? ad = some (.slice a0 D c0)) := fun W h => (h.cell hadb).trans hcell'
    clear hw2 J0 hcell hcell'
    go_wp2
    have J1 := Lib.hid J1.out.drew
    go_region_held3 (fun wr => wr.cell? ad = some (.slice a0 D c0)) (first | assumption | exact HB.out _ J1.out.b | go_keep)
      (first
          | (go_at_call 120; ((with_reducible refine (KC.out _ (HLI.out _ J1.out.b)).mono ?_); rintro e w3 ⟨g, rfl, hg, ho, b2⟩; have J1 := Lib.hid (J1.out.push hg ho b2); have hcx := HB.out _ J1.out.b; clear b2 hg ho)))
    rename_i _ g1 _ _ _
    obtain ⟨hb3, hs3, hnd, hown⟩ := (show _ ∧ _ from J1.out)
    have ho1 := hown g1 (by simp)
    have ho2 := hown g (by simp)
    have hne : g1 ≠ g := by have := (List.nodup_cons.1 hnd).1; intro e; exact this (by simp [e])
    have hg1 := ho1.1
    have hg2 := ho2.1
    have HO1' := Lib.hid ho1.2
    have HO2' := Lib.hid ho2.2
    have HB3' := Lib.hid hb3
    clear ho1 ho2 hnd hown hb3 hs3
    go_wp2
    go_loopw [26] (fun i wr => ∃ k : Nat, k ≤ D ∧ i = .int .i64 k ∧ Hid (OwnI wr g1 (mixI (colL R) (fun j => l0.getD j 0) D k)) ∧ Hid (OwnI wr g (mixI (colH R) (fun j => l0.getD j 0) D k)) ∧ Hid (Below w.heap.size w wr)) (fun i _ => D - (intOf i).toNat)
    case atStart => exact ⟨0, by omega, rfl, (by show OwnI _ _ _; rw [HM0.out]; exact HO1'.out), (by show OwnI _ _ _; rw [HM0.out]; exact HO2'.out), HB3'.out⟩
    case round =>
      obtain ⟨k, hk, rfl, HO1k, HO2k, HBk⟩ := hrel
      by_cases hlt : k < D
      · have hxl := HO1k.out.lt
        have hxh := HO2k.out.lt
        have hga : g1 ≠ wr.heap.size := by omega
        have hgb : g ≠ wr.heap.size := by omega
        have HLL : Hid ((mixI (colL R) (fun j => l0.getD j 0) D k).length = D) := mixI_len _ _ _ _
        have HHL : Hid ((mixI (colH R) (fun j => l0.getD j 0) D k).length = D) := mixI_len _ _ _ _
        have HGL : Hid ((mixI (colL R) (fun j => l0.getD j 0) D k).getD k 0 = l0.getD k 0) := mixI_get hlt
        have HGH : Hid ((mixI (colH R) (fun j => l0.getD j 0) D k).getD k 0 = l0.getD k 0) := mixI_get hlt
        have HSL : Hid ((mixI (colL R) (fun j => l0.getD j 0) D k).set k (colL R k) = mixI (colL R) (fun j => l0.getD j 0) D (k + 1)) := mixI_set hlt
        have HSH : Hid ((mixI (colH R) (fun j => l0.getD j 0) D k).set k (colH R k) = mixI (colH R) (fun j => l0.getD j 0) D (k + 1)) := mixI_set hlt
        have HB1 : Hid (Below w.heap.size w (wr.alloc (.cells #[.int .i64 k] 3))) := HBk.out.alloc HBk.out.size _
        have HBS : Hid (w.heap.size ≤ (wr.alloc (.cells #[.int .i64 k] 3)).heap.size) := HB1.out.size
        have HXC : Hid ((wr.alloc (.cells #[.int .i64 k] 3)).cell? ⟨wr.heap.size, 0, none⟩ = some (.int .i64 k)) := by
          show _ = _
          have := (Box.new wr #[.int .i64 (k : Int)] 3).cell 0
          exact this
        have HO1 : Hid (OwnI (wr.alloc (.cells #[.int .i64 k] 3)) g1 (mixI (colL R) (fun j => l0.getD j 0) D k)) := HO1k.out.alloc _
        have HO2 : Hid (OwnI (wr.alloc (.cells #[.int .i64 k] 3)) g (mixI (colH R) (fun j => l0.getD j 0) D k)) := HO2k.out.alloc _
        obtain ⟨A1, hA1⟩ : ∃ A1, A1 = (if c = 1 then some ad else some (ad.add 1)) := ⟨_, rfl⟩
        have HA1 := Lib.hid hA1
        have KE : Hid (∀ W2, Below w.heap.size w W2 → W2.cell? ⟨wr.heap.size, 0, none⟩ = some (.int .i64 k) → Calls Try.prog 100 #[.int .i64 (l0.getD k 0), .int .i64 (l0.getD k 0), .slice A1 (M - 1) (c - 1), .func (.func 121) #[] #[ptr wr.heap.size 0]] W2 fun e w' => e = .returned (.tuple #[.int .i64 (colL R k), .int .i64 (colH R k)]) ∧ ∃ n, w' = W2.drewN n) := fun W2 h1 h2 => by
          have hcut := HCUT.out W2 (HAA.out W2 h1)
          have h := ext_box (ptr wr.heap.size 0) (fun r => r.l.getD k 0) _ R.tail (c - 1) w.heap.size (l0.getD k 0) (l0.getD k 0) W2 hcut (by rw [htl.out]; omega) (fun n j hj => (box1 _ _ _ w.heap.size wr.heap.size k (W2.drewN n) h2 (hcut.2 _ (getD_mem hj)) (by rw [HROW.out j hj]; exact hlt)).mono fun e w' hh => ⟨hh.1, 0, hh.2.symm⟩)
          rw [htl.out, ← HCL.out, ← HCH.out] at h
          rw [hA1]
          exact h
        clear hA1
        generalize l0.getD k 0 = x at *
        generalize colL R k = x1 at *
        generalize colH R k = x2 at *
        generalize hlo1 : mixI (colL R) (fun j => l0.getD j 0) D k = lo1 at *
        generalize hhi1 : mixI (colH R) (fun j => l0.getD j 0) D k = hi1 at *
        go_wp2
        refine wp_region_steps (BoxJ w.heap.size w g1 g wr.heap.size k lo1 (lo1.set k x1) hi1 (hi1.set k x2) [some (.slice (some ⟨g1, 0, none⟩) D D), some (.int .i64 k), some (.slice (some ⟨g, 0, none⟩) D D), some (.int .i64 k), some (.slice (some ⟨g1, 0, none⟩) D D), some (.int .i64 k), some (ptr g1 k), some (.int .i64 x), some (.slice (some ⟨g, 0, none⟩) D D), some (.int .i64 k), some (ptr g k), some (.int .i64 x), some (.slice (some ad) M c), some (.slice A1 (M - 1) (c - 1)), some (.func (.func 121) #[] #[ptr wr.heap.size 0]), some (.tuple #[.int .i64 x1, .int .i64 x2]), some (.tuple #[.int .i64 x1, .int .i64 x2]), some (.int .i64 x1), some (.int .i64 x2), some (ptr g1 k), none, some (ptr g k), none])
          [[],[],[],[],[],[],[4,5],[6],[],[],[8,9],[10],[],[12],[],[7,11,13,14],[15],[16],[16],[0,1,0,1,4,5,6,7,8,9,10,11,12,13,14,15,16,17],[19,17,15,0,1,4,5,6,7,8,9,10,11,12,13,14,15,16,17],[2,3,0,1,2,3,4,5,6,7,8,9,10,11,12,13,14,15,16,17,18,19,20],[21,18,20,0,1,2,3,4,5,6,7,8,9,10,11,12,13,14,15,16,17,18,19,20]] (by kernel_rfl) (by kernel_rfl) (by kernel_rfl) (by kernel_rfl) ?_ ?_ ?_ ?_
        · exact fun f g vs w => BoxJ.alike rfl f g vs w
        · intro vs _
          exact ⟨fun j u h => by simp at h, ⟨HB1.out.drew, HBS.out⟩, HXC.out, HO1.out, HO2.out, by simp, by simp⟩
        · refine ⟨?_, ?_, ?_, ?_, ?_, ?_, ?_, ?_, ?_, ?_, ?_, ?_, ?_, ?_, ?_, ?_, ?_, ?_, ?_, ?_, ?_, ?_, ?_, trivial⟩
          all_goals
            intro f vs w1 hlen hf hp hj K hK
            rw [if_pos (by rfl)]
            obtain ⟨y0, y1, y2, y3, y4, y5, y6, y7, y8, y9, y10, y11, y12, y13, y14, y15, y16, y17, y18, y19, y20, y21, y22, rfl⟩ := len23 hlen
            clear hlen
            have HJ := Lib.hid hj
            simp only [putAll, Act.put, List.setIfInBounds_toArray, List.set_cons_zero, List.set_cons_succ] at hK ⊢
            clear hj
          -- 0
          · clear hp
            go_simp
            refine hK (.slice (some ⟨g1, 0, none⟩) D D) w1 ?_
            exact BoxJ.step (vs := [y0, y1, y2, y3, y4, y5, y6, y7, y8, y9, y10, y11, y12, y13, y14, y15, y16, y17, y18, y19, y20, y21, y22]) (i := 0) HJ.out (by simp) (by omega) (by omega) (fun u hu => by simpa using hu) ⟨0, rfl⟩
          -- 1
          · have hx1 := HJ.out.2.2.1
            clear hp
            go_simp
            refine hK (.int .i64 k) w1 ?_
            exact BoxJ.step (vs := [y0, y1, y2, y3, y4, y5, y6, y7, y8, y9, y10, y11, y12, y13, y14, y15, y16, y17, y18, y19, y20, y21, y22]) (i := 1) HJ.out (by simp) (by omega) (by omega) (fun u hu => by simpa using hu) ⟨0, rfl⟩
          -- 2
          · clear hp
            go_simp
            refine hK (.slice (some ⟨g, 0, none⟩) D D) w1 ?_
            exact BoxJ.step (vs := [y0, y1, y2, y3, y4, y5, y6, y7, y8, y9, y10, y11, y12, y13, y14, y15, y16, y17, y18, y19, y20, y21, y22]) (i := 2) HJ.out (by simp) (by omega) (by omega) (fun u hu => by simpa using hu) ⟨0, rfl⟩
          -- 3
          · have hx1 := HJ.out.2.2.1
            clear hp
            go_simp
            refine hK (.int .i64 k) w1 ?_
            exact BoxJ.step (vs := [y0, y1, y2, y3, y4, y5, y6, y7, y8, y9, y10, y11, y12, y13, y14, y15, y16, y17, y18, y19, y20, y21, y22]) (i := 3) HJ.out (by simp) (by omega) (by omega) (fun u hu => by simpa using hu) ⟨0, rfl⟩
          -- 4
          · clear hp
            go_simp
            refine hK (.slice (some ⟨g1, 0, none⟩) D D) w1 ?_
            exact BoxJ.step (vs := [y0, y1, y2, y3, y4, y5, y6, y7, y8, y9, y10, y11, y12, y13, y14, y15, y16, y17, y18, y19, y20, y21, y22]) (i := 4) HJ.out (by simp) (by omega) (by omega) (fun u hu => by simpa using hu) ⟨0, rfl⟩
          -- 5
          · have hx1 := HJ.out.2.2.1
            clear hp
            go_simp
            refine hK (.int .i64 k) w1 ?_
            exact BoxJ.step (vs := [y0, y1, y2, y3, y4, y5, y6, y7, y8, y9, y10, y11, y12, y13, y14, y15, y16, y17, y18, y19, y20, y21, y22]) (i := 5) HJ.out (by simp) (by omega) (by omega) (fun u hu => by simpa using hu) ⟨0, rfl⟩
          -- 6
          · obtain rfl : y4 = (.slice (some ⟨g1, 0, none⟩) D D) := HJ.out.1 4 _ (hp 4 (by simp)) rfl
            obtain rfl : y5 = (.int .i64 k) := HJ.out.1 5 _ (hp 5 (by simp)) rfl
            clear hp
            go_simp
            refine hK (ptr g1 k) w1 ?_
            exact BoxJ.step (vs := [y0, y1, y2, y3, .slice (some ⟨g1, 0, none⟩) D D, .int .i64 k, y6, y7, y8, y9, y10, y11, y12, y13, y14, y15, y16, y17, y18, y19, y20, y21, y22]) (i := 6) HJ.out (by simp) (by omega) (by omega) (fun u hu => by simpa using hu) ⟨0, rfl⟩
          -- 7
          · obtain rfl : y6 = (ptr g1 k) := HJ.out.1 6 _ (hp 6 (by simp)) rfl
            have f20 : f 20 = false := by
              cases h : f 20 with
              | false => rfl
              | true => rw [HJ.out.2.2.2.2.2.1 h] at hf; cases hf
            have ho := HJ.out.2.2.2.1
            rw [f20] at ho
            simp only [cond_false] at ho
            have hx1 := ho.cell (k := k) (by have := HLL.out; omega)
            rw [HGL.out] at hx1
            clear ho f20
            clear hp
            go_simp
            refine hK (.int .i64 x) w1 ?_
            exact BoxJ.step (vs := [y0, y1, y2, y3, y4, y5, ptr g1 k, y7, y8, y9, y10, y11, y12, y13, y14, y15, y16, y17, y18, y19, y20, y21, y22]) (i := 7) HJ.out (by simp) (by omega) (by omega) (fun u hu => by simpa using hu) ⟨0, rfl⟩
          -- 8
          · clear hp
            go_simp
            refine hK (.slice (some ⟨g, 0, none⟩) D D) w1 ?_
            exact BoxJ.step (vs := [y0, y1, y2, y3, y4, y5, y6, y7, y8, y9, y10, y11, y12, y13, y14, y15, y16, y17, y18, y19, y20, y21, y22]) (i := 8) HJ.out (by simp) (by omega) (by omega) (fun u hu => by simpa using hu) ⟨0, rfl⟩
          -- 9
          · have hx1 := HJ.out.2.2.1
            clear hp
            go_simp
            refine hK (.int .i64 k) w1 ?_
            exact BoxJ.step (vs := [y0, y1, y2, y3, y4, y5, y6, y7, y8, y9, y10, y11, y12, y13, y14, y15, y16, y17, y18, y19, y20, y21, y22]) (i := 9) HJ.out (by simp) (by omega) (by omega) (fun u hu => by simpa using hu) ⟨0, rfl⟩
          -- 10
          · obtain rfl : y8 = (.slice (some ⟨g, 0, none⟩) D D) := HJ.out.1 8 _ (hp 8 (by simp)) rfl
            obtain rfl : y9 = (.int .i64 k) := HJ.out.1 9 _ (hp 9 (by simp)) rfl
            clear hp
            go_simp
            refine hK (ptr g k) w1 ?_
            exact BoxJ.step (vs := [y0, y1, y2, y3, y4, y5, y6, y7, .slice (some ⟨g, 0, none⟩) D D, .int .i64 k, y10, y11, y12, y13, y14, y15, y16, y17, y18, y19, y20, y21, y22]) (i := 10) HJ.out (by simp) (by omega) (by omega) (fun u hu => by simpa using hu) ⟨0, rfl⟩
          -- 11
          · obtain rfl : y10 = (ptr g k) := HJ.out.1 10 _ (hp 10 (by simp)) rfl
            have f22 : f 22 = false := by
              cases h : f 22 with
              | false => rfl
              | true => rw [HJ.out.2.2.2.2.2.2 h] at hf; cases hf
            have ho := HJ.out.2.2.2.2.1
            rw [f22] at ho
            simp only [cond_false] at ho
            have hx1 := ho.cell (k := k) (by have := HHL.out; omega)
            rw [HGH.out] at hx1
            clear ho f22
            clear hp
            go_simp
            refine hK (.int .i64 x) w1 ?_
            exact BoxJ.step (vs := [y0, y1, y2, y3, y4, y5, y6, y7, y8, y9, ptr g k, y11, y12, y13, y14, y15, y16, y17, y18, y19, y20, y21, y22]) (i := 11) HJ.out (by simp) (by omega) (by omega) (fun u hu => by simpa using hu) ⟨0, rfl⟩
          -- 12
          · clear hp
            go_simp
            refine hK (.slice (some ad) M c) w1 ?_
            exact BoxJ.step (vs := [y0, y1, y2, y3, y4, y5, y6, y7, y8, y9, y10, y11, y12, y13, y14, y15, y16, y17, y18, y19, y20, y21, y22]) (i := 12) HJ.out (by simp) (by omega) (by omega) (fun u hu => by simpa using hu) ⟨0, rfl⟩
          -- 13
          · obtain rfl : y12 = (.slice (some ad) M c) := HJ.out.1 12 _ (hp 12 (by simp)) rfl
            clear hp
            by_cases h1 : c = 1
            · have HV : Hid (A1 = some ad) := by show _ = _; rw [HA1.out, if_pos h1]
              subst h1
              have hM1 : Hid (M - 1 = 0) := by show _ = _; omega
              go_simp
              refine hK _ w1 ?_
              exact BoxJ.step (vs := [y0, y1, y2, y3, y4, y5, y6, y7, y8, y9, y10, y11, .slice (some ad) M 1, y13, y14, y15, y16, y17, y18, y19, y20, y21, y22]) (i := 13) HJ.out (by simp) (by omega) (by omega) (fun u hu => by simp only [List.getElem?_cons_succ, List.getElem?_cons_zero, Option.some.injEq] at hu; rw [← hu, HV.out, hM1.out]) ⟨0, rfl⟩
            · have HV : Hid (A1 = some ⟨ad.block, ad.off + 1, none⟩) := by show _ = _; rw [HA1.out, if_neg h1]; rfl
              go_simp
              refine hK _ w1 ?_
              exact BoxJ.step (vs := [y0, y1, y2, y3, y4, y5, y6, y7, y8, y9, y10, y11, .slice (some ad) M c, y13, y14, y15, y16, y17, y18, y19, y20, y21, y22]) (i := 13) HJ.out (by simp) (by omega) (by omega) (fun u hu => by simp only [List.getElem?_cons_succ, List.getElem?_cons_zero, Option.some.injEq] at hu; rw [← hu, HV.out]) ⟨0, rfl⟩
          -- 14
          · clear hp
            go_simp
            refine hK (.func (.func 121) #[] #[ptr wr.heap.size 0]) w1 ?_
            exact BoxJ.step (vs := [y0, y1, y2, y3, y4, y5, y6, y7, y8, y9, y10, y11, y12, y13, y14, y15, y16, y17, y18, y19, y20, y21, y22]) (i := 14) HJ.out (by simp) (by omega) (by omega) (fun u hu => by simpa using hu) ⟨0, rfl⟩
          -- 15
          · obtain rfl : y7 = (.int .i64 x) := HJ.out.1 7 _ (hp 7 (by simp)) rfl
            obtain rfl : y11 = (.int .i64 x) := HJ.out.1 11 _ (hp 11 (by simp)) rfl
            obtain rfl : y13 = (.slice A1 (M - 1) (c - 1)) := HJ.out.1 13 _ (hp 13 (by simp)) rfl
            obtain rfl : y14 = (.func (.func 121) #[] #[ptr wr.heap.size 0]) := HJ.out.1 14 _ (hp 14 (by simp)) rfl
            have hb1 := HJ.out.2.1.1
            have hx1 := HJ.out.2.2.1
            have KE1 := Lib.hid (KE.out w1 hb1 hx1)
            clear hb1 hx1 hp
            go_wp2_with fail
            refine KE1.out.mono ?_
            rintro e w2' ⟨rfl, hw2⟩
            go_simp
            refine hK (.tuple #[.int .i64 x1, .int .i64 x2]) w2' ?_
            exact BoxJ.step (vs := [y0, y1, y2, y3, y4, y5, y6, .int .i64 x, y8, y9, y10, .int .i64 x, y12, .slice A1 (M - 1) (c - 1), .func (.func 121) #[] #[ptr wr.heap.size 0], y15, y16, y17, y18, y19, y20, y21, y22]) (i := 15) HJ.out (by simp) (by omega) (by omega) (fun u hu => by simpa using hu) hw2
          -- 16
          · obtain rfl : y15 = (.tuple #[.int .i64 x1, .int .i64 x2]) := HJ.out.1 15 _ (hp 15 (by simp)) rfl
            clear hp
            go_simp
            refine hK (.tuple #[.int .i64 x1, .int .i64 x2]) w1 ?_
            exact BoxJ.step (vs := [y0, y1, y2, y3, y4, y5, y6, y7, y8, y9, y10, y11, y12, y13, y14, .tuple #[.int .i64 x1, .int .i64 x2], y16, y17, y18, y19, y20, y21, y22]) (i := 16) HJ.out (by simp) (by omega) (by omega) (fun u hu => by simpa using hu) ⟨0, rfl⟩
          -- 17
          · obtain rfl : y16 = (.tuple #[.int .i64 x1, .int .i64 x2]) := HJ.out.1 16 _ (hp 16 (by simp)) rfl
            clear hp
            go_simp
            refine hK (.int .i64 x1) w1 ?_
            exact BoxJ.step (vs := [y0, y1, y2, y3, y4, y5, y6, y7, y8, y9, y10, y11, y12, y13, y14, y15, .tuple #[.int .i64 x1, .int .i64 x2], y17, y18, y19, y20, y21, y22]) (i := 17) HJ.out (by simp) (by omega) (by omega) (fun u hu => by simpa using hu) ⟨0, rfl⟩
          -- 18
          · obtain rfl : y16 = (.tuple #[.int .i64 x1, .int .i64 x2]) := HJ.out.1 16 _ (hp 16 (by simp)) rfl
            clear hp
            go_simp
            refine hK (.int .i64 x2) w1 ?_
            exact BoxJ.step (vs := [y0, y1, y2, y3, y4, y5, y6, y7, y8, y9, y10, y11, y12, y13, y14, y15, .tuple #[.int .i64 x1, .int .i64 x2], y17, y18, y19, y20, y21, y22]) (i := 18) HJ.out (by simp) (by omega) (by omega) (fun u hu => by simpa using hu) ⟨0, rfl⟩
          -- 19
          · obtain rfl : y0 = (.slice (some ⟨g1, 0, none⟩) D D) := HJ.out.1 0 _ (hp 0 (by simp)) rfl
            obtain rfl : y1 = (.int .i64 k) := HJ.out.1 1 _ (hp 1 (by simp)) rfl
            clear hp
            go_simp
            refine hK (ptr g1 k) w1 ?_
            exact BoxJ.step (vs := [.slice (some ⟨g1, 0, none⟩) D D, .int .i64 k, y2, y3, y4, y5, y6, y7, y8, y9, y10, y11, y12, y13, y14, y15, y16, y17, y18, y19, y20, y21, y22]) (i := 19) HJ.out (by simp) (by omega) (by omega) (fun u hu => by simpa using hu) ⟨0, rfl⟩
          -- 20
          · obtain rfl : y19 = (ptr g1 k) := HJ.out.1 19 _ (hp 19 (by simp)) rfl
            obtain rfl : y17 = (.int .i64 x1) := HJ.out.1 17 _ (hp 17 (by simp)) rfl
            have f7 := hp 7 (by simp)
            have hx1 := (HJ.out.2.2.2.1)
            rw [hf] at hx1
            simp only [cond_false] at hx1
            have hc1 := hx1.cell (k := k) (by have := HLL.out; omega)
            have hfr1 := hx1.free k
            clear hx1
            clear hp
            go_simp
            refine hK undef _ ?_
            exact BoxJ.store1 (vs := [y0, y1, y2, y3, y4, y5, y6, y7, y8, y9, y10, y11, y12, y13, y14, y15, y16, .int .i64 x1, y18, ptr g1 k, y20, y21, y22]) HJ.out (by simp) hf f7 (fun u hu => by simp at hu) (by have := HLL.out; omega) hne hga hg1
          -- 21
          · obtain rfl : y2 = (.slice (some ⟨g, 0, none⟩) D D) := HJ.out.1 2 _ (hp 2 (by simp)) rfl
            obtain rfl : y3 = (.int .i64 k) := HJ.out.1 3 _ (hp 3 (by simp)) rfl
            clear hp
            go_simp
            refine hK (ptr g k) w1 ?_
            exact BoxJ.step (vs := [y0, y1, .slice (some ⟨g, 0, none⟩) D D, .int .i64 k, y4, y5, y6, y7, y8, y9, y10, y11, y12, y13, y14, y15, y16, y17, y18, y19, y20, y21, y22]) (i := 21) HJ.out (by simp) (by omega) (by omega) (fun u hu => by simpa using hu) ⟨0, rfl⟩
          -- 22
          · obtain rfl : y21 = (ptr g k) := HJ.out.1 21 _ (hp 21 (by simp)) rfl
            obtain rfl : y18 = (.int .i64 x2) := HJ.out.1 18 _ (hp 18 (by simp)) rfl
            have f7 := hp 11 (by simp)
            have hx1 := (HJ.out.2.2.2.2.1)
            rw [hf] at hx1
            simp only [cond_false] at hx1
            have hc1 := hx1.cell (k := k) (by have := HHL.out; omega)
            have hfr1 := hx1.free k
            clear hx1
            clear hp
            go_simp
            refine hK undef _ ?_
            exact BoxJ.store2 (vs := [y0, y1, y2, y3, y4, y5, y6, y7, y8, y9, y10, y11, y12, y13, y14, y15, y16, y17, .int .i64 x2, y19, y20, ptr g k, y22]) HJ.out (by simp) hf f7 (fun u hu => by simp at hu) (by have := HHL.out; omega) (Ne.symm hne) hgb hg2
        · intro vs w1 hlen hj
          obtain ⟨y0, y1, y2, y3, y4, y5, y6, y7, y8, y9, y10, y11, y12, y13, y14, y15, y16, y17, y18, y19, y20, y21, y22, rfl⟩ := len23 hlen
          have HJ := Lib.hid hj
          clear hj hlen
          simp only [putAll, Act.put, List.setIfInBounds_toArray, List.set_cons_zero, List.set_cons_succ]
          obtain ⟨_, ⟨hb1, hb2⟩, _, ho1, ho2, _, _⟩ := HJ.out
          simp only [cond_true] at ho1 ho2
          have HO3 := Lib.hid ho1
          have HO4 := Lib.hid ho2
          have HB3 := Lib.hid hb1
          clear ho1 ho2 hb1 hb2
          go_wp2
          exact ⟨⟨k + 1, by omega, by go_num, (by show OwnI _ _ _; rw [← HSL.out]; exact HO3.out), (by show OwnI _ _ _; rw [← HSH.out]; exact HO4.out), HB3.out⟩, by first | (simp [intOf]; done) | (simp [intOf]; omega)⟩
      · obtain rfl : k = D := by omega
        have ho1 := HO1k.out
        have ho2 := HO2k.out
        rw [mixI_end] at ho1 ho2
        have HO5 := Lib.hid ho1
        have HO6 := Lib.hid ho2
        clear ho1 ho2
        go_wp2
        go_ret3
        refine (hG.out _ _).2 ?_
        rw [hDN.out]
        exact ⟨some ⟨g1, 0, none⟩, k, some ⟨g, 0, none⟩, k, (by rw [List.length_map, List.length_map, List.length_range]; rfl), by simp, by simp, HO5.out.lies, HO6.out.lies, HBk.out⟩
  · have hE0 : boxE R d = false := by simpa using hE
    have hch : chkV R d = 80 := by
      rcases chkV_or R d with g | g
      · exfalso
        obtain ⟨g1, g2⟩ := chkV_iff.1 g
        exact hE (by unfold boxE; rw [g2, decide_eq_true g1]; rfl)
      · exact g
    rw [hch] at K1
    have hG : Hid (∀ w', Below w.heap.size w w' → GivesBox R d w (.returned (.tuple #[.slice none 0 0, .slice none 0 0, .int .i64 80])) w') := fun w' hb => by
      unfold GivesBox boxLo boxHi boxC
      rw [hE0]
      exact ⟨none, 0, none, 0, rfl, by simp, by simp, Lies.nil, Lies.nil, hb⟩
    clear hA hR hE hE0 hch
    generalize R.length = M at *
    go_enter Try.func93, Try.ntmps93
    go_wp2_with fail
    refine K1.out.mono ?_
    rintro e w2 ⟨rfl, n, rfl⟩
    go_wp2
    go_ret3
    exact hG.out _ (below_drewN2 (Below.refl _ _) _)
end Go.Proofs.Ytkkeejbgaaodeaa
/-! The reference of layer 8: Box. -/
namespace Go.Proofs.Ytkkeejbgaaodeaa
open Go.RowKit
set_option linter.unusedVariables false
set_option linter.unusedSimpArgs false

/-- two lists of the call's own, each in its own block -/
def Two (B : Nat) (w : World) (v1 : Value) (l1 : List Int) (v2 : Value) (l2 : List Int) : Prop :=
  w.ownsRow B 3 1 v1 l1.length (litI l1) ∧ w.ownsRow B 3 1 v2 l2.length (litI l2) ∧ (v1.ownBlock = none ∨ v1.ownBlock ≠ v2.ownBlock)
theorem Two.a {B : Nat} {w : World} {v1 v2 : Value} {l1 l2 : List Int} (h : Two B w v1 l1 v2 l2) : w.ownsRow B 3 1 v1 l1.length (litI l1) := h.1
theorem Two.b {B : Nat} {w : World} {v1 v2 : Value} {l1 l2 : List Int} (h : Two B w v1 l1 v2 l2) : w.ownsRow B 3 1 v2 l2.length (litI l2) := h.2.1
theorem Two.c {B : Nat} {w : World} {v1 v2 : Value} {l1 l2 : List Int} (h : Two B w v1 l1 v2 l2) : v1.ownBlock = none ∨ v1.ownBlock ≠ v2.ownBlock := h.2.2
theorem Two.drewN {B : Nat} {w : World} {v1 v2 : Value} {l1 l2 : List Int} (h : Two B w v1 l1 v2 l2) (n : Nat) : Two B (w.drewN n) v1 l1 v2 l2 := ⟨ownI_drewN h.1 n, ownI_drewN h.2.1 n, h.2.2⟩
theorem own_ltI {w : World} {B : Nat} {v : Value} {n : Nat} {xs : List Value} (h : w.ownsRow B 3 1 v n xs) {k : Nat} (hk : v.ownBlock = some k) : k < w.heap.size := by
  rcases h.2 with ⟨rfl, _⟩ | ⟨g, cap, cur, rfl, _, hh, _⟩
  · simp [Value.ownBlock] at hk
  · simp only [Value.ownBlock, Option.some.injEq] at hk
    subst hk
    exact (Array.getElem?_eq_some_iff.1 hh).1
/-- one number more onto a list of the call's own, beside another one -/
theorem app_int_at {B : Nat} {wr : World} {ops : Array Oper} {rest : List Oper} {o : Oper} {a : Act} {Q : Exit → Act → World → Prop} (hgd : o.guard = none) (s x : Operand)
    (ho : o.op = .call { callee := .builtin .append, args := #[s, x], argTypes := #[35, 35] })
    (v : Value) (l : List Int) (d : Int) (u : Value) (m : List Int) (hs : a.eval s = v) (hown : wr.ownsRow B 3 1 v l.length (litI l)) (hown2 : wr.ownsRow B 3 1 u m.length (litI m)) (hne : v.ownBlock = none ∨ v.ownBlock ≠ u.ownBlock) (hx : a.eval x = .slice (some ⟨wr.heap.size, 0, none⟩) 1 1)
    (hB : B ≤ wr.heap.size) (hn : l.length + 1 ≤ 1000000000)
    (h : ∀ v' w', Two B w' v' (l ++ [d]) u m → Below B wr w' → wpList Try.prog ops Q rest (a.put o.dst v') w') :
    wpList Try.prog ops Q (o :: rest) a (wr.alloc (.cells #[.int .i64 d] 3)) := by
  obtain ⟨i0, hi, hz0, hz1, hz2⟩ := info_parts infoI
  refine wpList_append_own_at _ hgd s x 35 ho B 3 i0 (.int .i64 0) 1 8 Try.underlying35 hi hz0 hz1 hz2 rfl (by decide) v l.length (litI l) hs (hown.alloc _) ⟨wr.heap.size, 0, none⟩ 1 1 [.int .i64 d] hx rfl (cell_one_new _ _ _) ?_ ?_ ?_ ?_ ?_
  · intro u hu; rw [List.mem_singleton.1 hu]; rfl
  · unfold maxLen; omega
  · omega
  · simp; omega
  · intro v' w' h1 h2 _ h4
    have hub : ∀ k, u.ownBlock = some k → k < wr.heap.size := fun k hk => own_ltI hown2 hk
    refine h v' w' ⟨?_, ?_, ?_⟩ ?_
    · rw [List.length_append, ← litI_snoc]; exact h1
    · refine (hown2.alloc (.cells #[.int .i64 d] 3)).kept h2 ?_
      rcases hown2.2 with ⟨rfl, _⟩ | ⟨g, cap, cur, rfl, _⟩
      · exact .inl rfl
      · right
        rcases hne with e | e
        · rw [e]; simp [Value.ownBlock]
        · exact fun e2 => e e2.symm
    · rcases h4 with e | e
      · rw [e]; exact hne
      · right
        rw [e]
        intro e2
        have := hub _ e2.symm
        simp at this
        omega
    · refine ((Below.refl _ _).alloc hB _).grown h2 (by simp; omega) fun k hk => ?_
      rcases hown.2 with ⟨rfl, _⟩ | ⟨g, cap, cur, rfl, hg, _⟩
      · simp [Value.ownBlock] at hk
      · simp only [Value.ownBlock, Option.some.injEq] at hk; omega
theorem Two.swap {B : Nat} {w : World} {v1 v2 : Value} {l1 l2 : List Int} (h : Two B w v1 l1 v2 l2) : Two B w v2 l2 v1 l1 := by
  refine ⟨h.2.1, h.1, ?_⟩
  rcases h.2.2 with e | e
  · by_cases g : v2.ownBlock = none
    · exact .inl g
    · right; rw [e]; exact g
  · right; exact fun e2 => e e2.symm
def colR (R : List Row) (j : Nat) : List Int := R.map fun r => r.l.getD j 0
theorem colR_get (R : List Row) (j : Nat) {i : Nat} (hi : i < R.length) : (colR R j).getD i 0 = (R.getD i row0).l.getD j 0 := by
  unfold colR
  rw [List.getD_eq_getElem?_getD, List.getElem?_map, List.getElem?_eq_getElem hi]
  simp [List.getD, hi]
theorem colL_all {R : List Row} (h : 0 < R.length) (j : Nat) : loL ((R.getD 0 row0).l.getD j 0) (colR R j) = colL R j := by
  cases R with
  | nil => simp at h
  | cons r R => unfold colL colR loL; simp
theorem colH_all {R : List Row} (h : 0 < R.length) (j : Nat) : hiL ((R.getD 0 row0).l.getD j 0) (colR R j) = colH R j := by
  cases R with
  | nil => simp at h
  | cons r R => unfold colH colR hiL; simp
theorem range_snoc (F : Nat → Int) (k : Nat) : (List.range k).map F ++ [F k] = (List.range (k + 1)).map F := by rw [List.range_succ, List.map_append]; rfl
set_option maxRecDepth 100000 in
set_option maxHeartbeats 4000000 in
theorem ref_Box (A : Option Addr) (R : List Row) (c : Nat) (d : Int) (w : World) (hA : LiesR w w.heap.size A R) (hl : (R.length : Int) ≤ 9223372036854775807) :
    Calls Try.prog 104 #[.slice A R.length c, .int .i64 d] w (GivesBox R d w) := by
  have K1 := Lib.hid (ref_All A R c w.heap.size d w hA hl)
  by_cases hE : boxE R d = true
  · have hE2 := hE
    unfold boxE at hE2
    rw [hE2] at K1
    rw [Bool.and_eq_true, decide_eq_true_eq] at hE2
    obtain ⟨hall, h0⟩ := hE2
    have hLo : boxLo R d = (List.range d.toNat).map (colL R) := by unfold boxLo; rw [if_pos hE]
    have hHi : boxHi R d = (List.range d.toNat).map (colH R) := by unfold boxHi; rw [if_pos hE]
    have hCo : boxC R d = 0 := by unfold boxC; rw [if_pos hE]
    have hG : Hid (∀ e w', GivesBox R d w e w' ↔ ∃ A c A2 c2, e = .returned (.tuple #[.slice A ((List.range d.toNat).map (colL R)).length c, .slice A2 ((List.range d.toNat).map (colH R)).length c2, .int .i64 0]) ∧ ((List.range d.toNat).map (colL R)).length ≤ c ∧ ((List.range d.toNat).map (colH R)).length ≤ c2 ∧ Lies w' w'.heap.size A ((List.range d.toNat).map (colL R)) ∧ Lies w' w'.heap.size A2 ((List.range d.toNat).map (colH R)) ∧ Below w.heap.size w w') := fun e w' => by
      unfold GivesBox; rw [hLo, hHi, hCo]
    have hv := allV_iff.1 hall
    obtain ⟨ad, rfl, hadb, hcell, hlies⟩ := hA.at (k := 0) h0
    have hcell' : w.cell? ad = some (.slice (R.getD 0 row0).a (R.getD 0 row0).l.length (R.getD 0 row0).c) := by rw [add_zero'] at hcell; exact hcell
    obtain ⟨v1, v2, v3, _⟩ := isV_iff.1 (hv 0 h0)
    obtain ⟨D, hD⟩ : ∃ D : Nat, D = (R.getD 0 row0).l.length := ⟨_, rfl⟩
    obtain rfl : d = (D : Int) := by rw [hD]; exact v3.symm
    have hDN : Hid (((D : Int)).toNat = D) := by show _ = _; omega
    have HAA := Lib.hid (fun W (h : Below w.heap.size w W) => hA.below h)
    have HLL : Hid (∀ j, j < R.length → (R.getD j row0).l.length = D) := fun j hj => by
      have h2 := (isV_iff.1 (hv j hj)).2.2.1
      omega
    have HCL := Lib.hid (fun j => colL_all h0 j)
    have HCH := Lib.hid (fun j => colH_all h0 j)
    have HCG := Lib.hid (fun j i (hi : i < R.length) => colR_get R j hi)
    have HCN : Hid (∀ j, (colR R j).length = R.length) := fun j => by unfold colR; simp
    have HC0 : Hid (∀ W, Below w.heap.size w W → W.cell? ad = some (.slice (R.getD 0 row0).a D (R.getD 0 row0).c) ∧ Lies W w.heap.size (R.getD 0 row0).a (R.getD 0 row0).l) := fun W h => ⟨by rw [hD]; exact (h.cell hadb).trans hcell', hlies.below h⟩
    generalize (R.getD 0 row0).l = l0 at *
    generalize (R.getD 0 row0).a = a0 at *
    generalize (R.getD 0 row0).c = c0 at *
    have HD := Lib.hid hD
    generalize hM : R.length = M at *
    have HM := Lib.hid hM
    have g6 : (1 : Int) ≤ M := by omega
    have h0' : (0 : Int) < (M : Int) := by omega
    clear hA hlies hE hall hLo hHi hCo hv hD hM v3 hcell hcell'
    go_enter Try.func104, Try.ntmps104
    go_wp2_with fail
    refine K1.out.mono ?_
    rintro e w2 ⟨rfl, rfl⟩
    go_wp2
    go_loopw [7, 8, 9] (fun v7 v8 i wr => ∃ k : Nat, k ≤ D ∧ i = .int .i64 k ∧ Hid (Two w.heap.size wr v7 ((List.range k).map (colL R)) v8 ((List.range k).map (colH R))) ∧ Hid (Below w.heap.size w wr)) (fun _ _ i _ => D - (intOf i).toNat)
    case atStart => exact ⟨0, by omega, rfl, ⟨World.ownsRow_nil _ _ _ _, World.ownsRow_nil _ _ _ _, .inl rfl⟩, Below.refl _ _⟩
    case round =>
      obtain ⟨k, hk, rfl, HT, HB⟩ := hrel
      by_cases hlt : k < D
      · obtain ⟨hc0, hl0⟩ := HC0.out wr HB.out
        obtain ⟨ad0, rfl, hb0, hx0⟩ := hl0.at (k := k) (by have := HD.out; omega)
        have hc0' : wr.cell? (ad.add 0) = some (.slice (some ad0) D c0) := by rw [add_zero']; exact hc0
        have hji : (k : Int) < (D : Int) := by omega
        have HCLk := Lib.hid (HCL.out k)
        have HCHk := Lib.hid (HCH.out k)
        have HCGk := Lib.hid (HCG.out k)
        have HCNk := Lib.hid (HCN.out k)
        have HRL := Lib.hid (range_snoc (colL R) k)
        have HRH := Lib.hid (range_snoc (colH R) k)
        have HLLn : Hid (((List.range k).map (colL R)).length = k ∧ ((List.range k).map (colH R)).length = k) := by show _ ∧ _; simp
        generalize l0.getD k 0 = x at *
        generalize colR R k = C at *
        clear hl0
        go_wp2
        go_quiet (fail)
        go_wp2
        obtain ⟨wo, hwo⟩ : ∃ wo, wo = wr.drewN nq := ⟨_, rfl⟩
        rw [← hwo]
        have HBo : Hid (Below w.heap.size w wo) := by show Below _ _ _; rw [hwo]; exact below_drewN2 HB.out nq
        have HTo : Hid (Two w.heap.size wo u7 ((List.range k).map (colL R)) u8 ((List.range k).map (colH R))) := by show Two _ _ _ _ _ _; rw [hwo]; exact HT.out.drewN nq
        have HAo := Lib.hid (HAA.out wo HBo.out)
        clear hc0 hc0' hx0 hwo HT HB
        go_loop [10, 11, 12] (fun av bv iv => ∃ (i : Nat) (p q : Int), i ≤ M ∧ iv = .int .i64 i ∧ av = .int .i64 p ∧ bv = .int .i64 q ∧ Hid (p = loL x (C.take i)) ∧ Hid (q = hiL x (C.take i))) (fun _ _ iv => M - (intOf iv).toNat)
        case atStart => exact ⟨0, x, x, by omega, rfl, rfl, rfl, rfl, rfl⟩
        case round =>
          obtain ⟨i, p, q, hi, rfl, rfl, rfl, HP, HQ⟩ := hrel
          by_cases hlt2 : i < M
          · obtain ⟨adi, hadi, _, hci, hli⟩ := HAo.out.at (k := i) (by have := HM.out; omega)
            cases hadi
            have hlen := HLL.out i hlt2
            obtain ⟨adk, hadk, hbk, hxk⟩ := hli.at (k := k) (by omega)
            rw [← HCGk.out i (by have := HM.out; omega)] at hxk
            rw [hlen, hadk] at hci
            have HL := Lib.hid (loL_take x C (k := i) (by have := HCNk.out; omega))
            have HH := Lib.hid (hiL_take x C (k := i) (by have := HCNk.out; omega))
            generalize C.getD i 0 = z at *
            generalize (R.getD i row0).c = ci at *
            clear hli hlen hadk
            by_cases g1 : z < p <;> by_cases g2 : q < z
            all_goals
              go_wp2
              go_round
              case rel => exact ⟨i + 1, _, _, by omega, by go_num, rfl, rfl, (by show _ = _; rw [HL.out, ← HP.out]; omega), (by show _ = _; rw [HH.out, ← HQ.out]; omega)⟩
              case measure => simp [intOf]; omega
          · obtain rfl : i = M := by omega
            have HP2 : Hid (p = colL R k) := by
              show _ = _
              rw [HP.out, List.take_of_length_le (by have := HCNk.out; omega), HCLk.out]
            have HQ2 : Hid (q = colH R k) := by
              show _ = _
              rw [HQ.out, List.take_of_length_le (by have := HCNk.out; omega), HCHk.out]
            clear HP HQ HCLk HCHk
            generalize hLk : (List.range k).map (colL R) = Lk at *
            generalize hHk : (List.range k).map (colH R) = Hk at *
            have hb1 := HBo.out.size
            have hn1 : Hid (Lk.length + 1 ≤ 1000000000) := by have := HLLn.out.1; show _ ≤ _; omega
            have hn2 : Hid (Hk.length + 1 ≤ 1000000000) := by have := HLLn.out.2; show _ ≤ _; omega
            have HBS := Lib.hid hb1
            clear hLk hHk hb1
            go_wp2_with (first
              | (at_builtin; refine app_int_at rfl (.tmp 72) (.tmp 74) rfl _ Lk p _ Hk rfl HTo.out.a HTo.out.b HTo.out.c rfl HBS.out hn1.out ?_; intro v' w4 ht4 hb4; have HT4 := Lib.hid ht4.swap; clear ht4; have HBS4 := Lib.hid (Nat.le_trans HBS.out hb4.size))
              | (at_builtin; refine app_int_at rfl (.tmp 76) (.tmp 78) rfl _ Hk q _ (Lk ++ [p]) rfl HT4.out.a HT4.out.b HT4.out.c rfl HBS4.out hn2.out ?_; intro v'' w5 ht5 hb5; have HT5 := Lib.hid ht5.swap; clear ht5))
            refine ⟨⟨k + 1, by omega, by go_num, ?_, HBo.out.trans (hb4.trans hb5)⟩, by first | (simp [intOf]; done) | (simp [intOf]; omega)⟩
            show Two _ _ _ _ _ _
            rw [← HRL.out, ← HRH.out, ← HP2.out, ← HQ2.out]
            exact HT5.out
      · obtain rfl : k = D := by omega
        obtain ⟨h1, h2, _⟩ := HT.out
        obtain ⟨A1, c1, rfl, g1, _, g3⟩ := lies_ownI h1
        obtain ⟨A2, c2, rfl, g4, _, g5⟩ := lies_ownI h2
        have H1 := Lib.hid g1
        have H3 := Lib.hid g3
        have H4 := Lib.hid g4
        have H5 := Lib.hid g5
        clear g1 g3 g4 g5 h1 h2
        go_wp2
        go_ret3
        refine (hG.out _ _).2 ?_
        rw [hDN.out]
        exact ⟨A1, c1, A2, c2, rfl, H1.out, H4.out, H3.out, H5.out, HB.out⟩
  · have hE0 : boxE R d = false := by simpa using hE
    have hE1 := hE0
    unfold boxE at hE1
    rw [hE1] at K1
    have hG : Hid (∀ w', Below w.heap.size w w' → GivesBox R d w (.returned (.tuple #[.slice none 0 0, .slice none 0 0, .int .i64 80])) w') := fun w' hb => by
      unfold GivesBox boxLo boxHi boxC
      rw [hE0]
      exact ⟨none, 0, none, 0, rfl, by simp, by simp, Lies.nil, Lies.nil, hb⟩
    clear hA hE hE0 hE1
    generalize R.length = M at *
    go_enter Try.func104, Try.ntmps104
    go_wp2_with fail
    refine K1.out.mono ?_
    rintro e w2 ⟨rfl, rfl⟩
    go_wp2
    go_ret3
    exact hG.out _ (Below.refl _ _)
end Go.Proofs.Ytkkeejbgaaodeaa
/-! How lists and rows among the arguments of a law are opened. -/
namespace Go.Proofs.Ytkkeejbgaaodeaa
open Go.RowKit Go.WideShapes Go.ChangeShapes Go.Joins Go.Deep
theorem below_qd {w0 w w' : World} (c : Below w0.heap.size w0 w) (h : ∃ n, w' = w.drewN n) : Below w0.heap.size w0 w' := by
  obtain ⟨n, rfl⟩ := h; exact ⟨c.os, c.tape, c.output, c.size, c.block⟩
theorem below_tr {w0 w w' : World} (c : Below w0.heap.size w0 w) (h : Below w.heap.size w w') : Below w0.heap.size w0 w' := c.trans (h.mono c.size)
section
variable {H : Type} {enc : TypeId × Value → H}
theorem cells_i8 : Try.prog.cellsOf 3 = 1 := by kernel_rfl
theorem cells_l8 : Try.prog.cellsOf 35 = 1 := by kernel_rfl
theorem open_ints8 {P : Program} {W : World} {base : Nat} {t e : TypeId} {v : Value} {d : DataW H} {p : List MemPlace} (ht : P.underlying t = some (.slice e)) (he : P.underlying e = some (.int .i64)) (hc : P.cellsOf e = 1)
    (hv : Value.okWide P W .any base t v) (h : DataW.Trod enc P W 0 (fun _ => true) true t v d p) :
    ∃ A l c, v = .slice A l.length c ∧ Lies W W.heap.size A l ∧ (∀ x ∈ l, I64 x) ∧ l.length ≤ c ∧ c ≤ 9223372036854775807 := by
  obtain ⟨a0, len, cap, rfl⟩ := okWide_slice ht hv
  obtain ⟨fuel, hf⟩ := h
  rcases open_ints ht he hc hf with ⟨hcs, _⟩ | ⟨a, len', cap', zs, hcs, _, hle, hm, hz, _, hcell, hwz⟩
  · simp [Value.cells] at hcs
    obtain ⟨rfl, rfl, rfl⟩ := hcs
    exact ⟨none, [], 0, rfl, Lies.nil, (fun x hx => by cases hx), by simp, by simp⟩
  · simp [Value.cells] at hcs
    obtain ⟨rfl, rfl, rfl⟩ := hcs
    simp only [if_true] at hz
    unfold maxLen at hm
    have hlen : (zs.take len).length = len := by rw [List.length_take]; omega
    refine ⟨some a, zs.take len, cap, by rw [hlen], fun h0 => ⟨a, rfl, ?_, fun j hj => ?_⟩, fun x hx => i64_of_wf (hwz x (List.mem_of_mem_take hx)), by omega, by omega⟩
    · have h1 := hcell 0 (by omega)
      have h2 := World.block_lt_of_cell? W (a.add 0) h1
      rw [add_block] at h2
      exact h2
    · rw [hlen] at hj
      rw [hcell j (by omega), List.getD_eq_getElem?_getD, List.getD_eq_getElem?_getD, List.getElem?_take, if_pos hj]
theorem open_rows8 {P : Program} {W : World} {base : Nat} {t e q : TypeId} {v : Value} {d : DataW H} {p : List MemPlace} (ht : P.underlying t = some (.slice e)) (he : P.underlying e = some (.slice q)) (hq : P.underlying q = some (.int .i64)) (hc : P.cellsOf e = 1) (hc2 : P.cellsOf q = 1)
    (hv : Value.okWide P W .any base t v) (h : DataW.Trod enc P W 0 (fun _ => true) true t v d p) :
    ∃ A R c, v = .slice A R.length c ∧ LiesR W W.heap.size A R ∧ OkR R ∧ R.length ≤ c ∧ c ≤ 9223372036854775807 := by
  obtain ⟨a0, len, cap, rfl⟩ := okWide_slice ht hv
  obtain ⟨fuel, hf⟩ := h
  rcases open_int_rows ht he hq hc hc2 hf with ⟨hcs, _⟩ | ⟨a, len', cap', A, L, C, Z, hcs, _, hle, hm, _, hrows⟩
  · simp [Value.cells] at hcs
    obtain ⟨rfl, rfl, rfl⟩ := hcs
    exact ⟨none, [], 0, rfl, LiesR.nil, (fun x hx => by cases hx), by simp, by simp⟩
  · simp [Value.cells] at hcs
    obtain ⟨rfl, rfl, rfl⟩ := hcs
    unfold maxLen at hm hrows
    have hg : ∀ j, j < len → ((List.range len).map fun r => (⟨A r, (Z r).take (L r), C r⟩ : Row)).getD j row0 = ⟨A j, (Z j).take (L j), C j⟩ := fun j hj => by
      rw [List.getD_eq_getElem?_getD, List.getElem?_map, List.getElem?_range hj]; rfl
    have hlr : ∀ j, j < len → ((Z j).take (L j)).length = L j := fun j hj => by
      obtain ⟨_, h2, _, h4, _⟩ := hrows j (by omega)
      rw [List.length_take]; omega
    refine ⟨some a, (List.range len).map fun r => ⟨A r, (Z r).take (L r), C r⟩, cap, by simp, ⟨fun h0 => ⟨a, rfl, ?_, fun j hj => ?_⟩, fun r hr => ?_⟩, fun r hr => ?_, by simpa using hle, by omega⟩
    · simp at h0
      have h1 := (hrows 0 (by omega)).1
      have h2 := World.block_lt_of_cell? W (a.add 0) h1
      rw [add_block] at h2
      exact h2
    · have hj' : j < len := by simpa using hj
      rw [hg j hj', (hrows j (by omega)).1]
      unfold rowV
      simp only
      rw [hlr j hj']
    · simp only [List.mem_map, List.mem_range] at hr
      obtain ⟨j, hj, rfl⟩ := hr
      obtain ⟨_, h2, _, h4, _, h6, h7⟩ := hrows j (by omega)
      intro h0
      simp only at h0
      rw [hlr j hj] at h0
      cases hA : A j with
      | none => rw [h6 hA] at h2; omega
      | some a' =>
        obtain ⟨_, hcell⟩ := h7 a' hA
        refine ⟨a', rfl, ?_, fun k hk => ?_⟩
        · have h1 := hcell 0 (by omega)
          have h3 := World.block_lt_of_cell? W (a'.add 0) h1
          rw [add_block] at h3
          exact h3
        · simp only at hk ⊢
          rw [hlr j hj] at hk
          rw [hcell k (by omega), List.getD_eq_getElem?_getD, List.getD_eq_getElem?_getD, List.getElem?_take, if_pos hk]
    · simp only [List.mem_map, List.mem_range] at hr
      obtain ⟨j, hj, rfl⟩ := hr
      obtain ⟨_, h2, h3, h4, h5, _⟩ := hrows j (by omega)
      refine ⟨by simp only; rw [hlr j hj]; exact h2, by simp only; omega, fun x hx => i64_of_wf (h5 x (List.mem_of_mem_take hx))⟩
end
end Go.Proofs.Ytkkeejbgaaodeaa
