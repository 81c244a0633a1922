/- VecM VecA VecB VecC VecD VecE VecF VecL VecG VecH VecI VecJ VecK VecN VecQ -/
import Derived.Test.YtaeodkpkgbjaeaaBase
import Derived.WalkMore
import Derived.Deep.QuietTactic
import Derived.BigQuiet
import Derived.ArgAppend
import Derived.Maps.AppendAt
import Derived.Deep.Matrix
import Derived.OpenShut
import Derived.ProofKit
/-! Lists of numbers as vectors: extremes, products, gaps; rows in memory. -/
namespace Go.Proofs.Ytaeodkpkgbjaeaa
open Go.RowKit
set_option linter.unusedVariables false
set_option linter.unusedSimpArgs false

def loL (a : Int) (l : List Int) : Int := l.foldl min a
def hiL (a : Int) (l : List Int) : Int := l.foldl max a
theorem le_loL (m : Int) : ∀ (l : List Int) (a : Int), m ≤ loL a l ↔ m ≤ a ∧ ∀ x ∈ l, m ≤ x
  | [], a => by simp [loL]
  | y :: l, a => by
    have h := le_loL m l (min a y)
    unfold loL at h ⊢
    rw [List.foldl_cons, h]
    simp only [List.forall_mem_cons]
    constructor
    · rintro ⟨h1, h2⟩; exact ⟨by omega, by omega, h2⟩
    · rintro ⟨h1, h2, h3⟩; exact ⟨by omega, h3⟩
theorem hiL_le (m : Int) : ∀ (l : List Int) (a : Int), hiL a l ≤ m ↔ a ≤ m ∧ ∀ x ∈ l, x ≤ m
  | [], a => by simp [hiL]
  | y :: l, a => by
    have h := hiL_le m l (max a y)
    unfold hiL at h ⊢
    rw [List.foldl_cons, h]
    simp only [List.forall_mem_cons]
    constructor
    · rintro ⟨h1, h2⟩; exact ⟨by omega, by omega, h2⟩
    · rintro ⟨h1, h2, h3⟩; exact ⟨by omega, h3⟩
theorem loL_snoc (a : Int) (l : List Int) (x : Int) : loL a (l ++ [x]) = min (loL a l) x := by simp [loL]
theorem hiL_snoc (a : Int) (l : List Int) (x : Int) : hiL a (l ++ [x]) = max (hiL a l) x := by simp [hiL]
theorem take_get (l : List Int) {k : Nat} (h : k < l.length) : l.take (k + 1) = l.take k ++ [l.getD k 0] := by
  rw [List.take_succ_eq_append_getElem h]
  simp [List.getD, h]
theorem loL_take (a : Int) (l : List Int) {k : Nat} (h : k < l.length) : loL a (l.take (k + 1)) = min (loL a (l.take k)) (l.getD k 0) := by rw [take_get l h, loL_snoc]
theorem hiL_take (a : Int) (l : List Int) {k : Nat} (h : k < l.length) : hiL a (l.take (k + 1)) = max (hiL a (l.take k)) (l.getD k 0) := by rw [take_get l h, hiL_snoc]
theorem loL_mem : ∀ (l : List Int) (a : Int), loL a l = a ∨ loL a l ∈ l
  | [], a => .inl rfl
  | y :: l, a => by
    have h := loL_mem l (min a y)
    unfold loL at h ⊢
    rw [List.foldl_cons]
    rcases h with h | h
    · rcases Int.le_total a y with g | g
      · left; rw [h]; omega
      · right; rw [h, show min a y = y from by omega]; simp
    · right; exact List.mem_cons_of_mem _ h
theorem hiL_mem : ∀ (l : List Int) (a : Int), hiL a l = a ∨ hiL a l ∈ l
  | [], a => .inl rfl
  | y :: l, a => by
    have h := hiL_mem l (max a y)
    unfold hiL at h ⊢
    rw [List.foldl_cons]
    rcases h with h | h
    · rcases Int.le_total a y with g | g
      · right; rw [h, show max a y = y from by omega]; simp
      · left; rw [h]; omega
    · right; exact List.mem_cons_of_mem _ h

/-- within the bounds of a vector's numbers -/
def okN (x : Int) : Prop := -2147483648 ≤ x ∧ x ≤ 2147483647
def isV (v : List Int) (d : Int) : Bool := decide (1 ≤ d ∧ d ≤ 8 ∧ (v.length : Int) = d ∧ ∀ x ∈ v, -2147483648 ≤ x ∧ x ≤ 2147483647)
def partsV (c : List Int) (d : Int) : Bool := decide (1 ≤ d ∧ d ≤ 8 ∧ (c.length : Int) = d ∧ (∀ x ∈ c, -4 ≤ x ∧ x ≤ 4) ∧ ∃ x ∈ c, x ≠ 0)
theorem isV_iff {v : List Int} {d : Int} : isV v d = true ↔ 1 ≤ d ∧ d ≤ 8 ∧ (v.length : Int) = d ∧ ∀ x ∈ v, -2147483648 ≤ x ∧ x ≤ 2147483647 := by unfold isV; exact decide_eq_true_iff
theorem partsV_iff {v : List Int} {d : Int} : partsV v d = true ↔ 1 ≤ d ∧ d ≤ 8 ∧ (v.length : Int) = d ∧ (∀ x ∈ v, -4 ≤ x ∧ x ≤ 4) ∧ ∃ x ∈ v, x ≠ 0 := by unfold partsV; exact decide_eq_true_iff
/-- what 'ends' tells of a row that is as long as it should be -/
def endsK (l : List Int) (d : Int) : Bool := decide (1 ≤ d ∧ d ≤ 8 ∧ (l.length : Int) = d)
def endsL (l : List Int) (d : Int) : Int := if endsK l d then loL (l.getD 0 0) l.tail else 0
def endsH (l : List Int) (d : Int) : Int := if endsK l d then hiL (l.getD 0 0) l.tail else 0
theorem endsK_iff {l : List Int} {d : Int} : endsK l d = true ↔ 1 ≤ d ∧ d ≤ 8 ∧ (l.length : Int) = d := by unfold endsK; exact decide_eq_true_iff
theorem ends_cons {l : List Int} {d : Int} (h : endsK l d = true) : ∃ a r, l = a :: r ∧ endsL l d = loL a r ∧ endsH l d = hiL a r := by
  have h2 := endsK_iff.1 h
  cases l with
  | nil => simp at h2; omega
  | cons a r => exact ⟨a, r, rfl, by unfold endsL; rw [if_pos h]; rfl, by unfold endsH; rw [if_pos h]; rfl⟩
theorem isV_ends (l : List Int) (d : Int) : isV l d = (endsK l d && (decide (-2147483648 ≤ endsL l d) && decide (endsH l d ≤ 2147483647))) := by
  rw [Bool.eq_iff_iff, isV_iff]
  by_cases h : endsK l d = true
  · obtain ⟨a, r, rfl, e1, e2⟩ := ends_cons h
    have h3 := endsK_iff.1 h
    simp only [h, Bool.true_and, Bool.and_eq_true, decide_eq_true_eq, e1, e2, le_loL, hiL_le, List.forall_mem_cons]
    constructor
    · rintro ⟨_, _, _, ⟨h4, h5⟩, h6⟩; exact ⟨⟨h4, fun x hx => (h6 x hx).1⟩, h5, fun x hx => (h6 x hx).2⟩
    · rintro ⟨⟨h4, h5⟩, h6, h7⟩; exact ⟨h3.1, h3.2.1, h3.2.2, ⟨h4, h6⟩, fun x hx => ⟨h5 x hx, h7 x hx⟩⟩
  · rw [Bool.not_eq_true] at h
    simp only [h, Bool.false_and, Bool.false_eq_true, iff_false]
    rintro ⟨h1, h2, h3, _⟩
    rw [endsK_iff.2 ⟨h1, h2, h3⟩] at h; cases h
theorem partsV_ends (l : List Int) (d : Int) : partsV l d = (endsK l d && (decide (-4 ≤ endsL l d) && (decide (endsH l d ≤ 4) && (decide (endsL l d < 0) || decide (0 < endsH l d))))) := by
  rw [Bool.eq_iff_iff, partsV_iff]
  by_cases h : endsK l d = true
  · obtain ⟨a, r, rfl, e1, e2⟩ := ends_cons h
    have h3 := endsK_iff.1 h
    simp only [h, Bool.true_and, Bool.and_eq_true, Bool.or_eq_true, decide_eq_true_eq, e1, e2, le_loL, hiL_le, List.forall_mem_cons]
    have hlo : loL a r < 0 ↔ ¬ (0 ≤ a ∧ ∀ x ∈ r, 0 ≤ x) := by rw [← le_loL]; omega
    have hhi : 0 < hiL a r ↔ ¬ (a ≤ 0 ∧ ∀ x ∈ r, x ≤ 0) := by rw [← hiL_le]; omega
    rw [hlo, hhi]
    constructor
    · rintro ⟨_, _, _, ⟨h4, h6⟩, y, hy, hy0⟩
      refine ⟨⟨h4.1, fun x hx => (h6 x hx).1⟩, ⟨h4.2, fun x hx => (h6 x hx).2⟩, ?_⟩
      rcases List.mem_cons.1 hy with rfl | hy
      · rcases Int.lt_or_gt_of_ne hy0 with g | g
        · left; rintro ⟨g1, _⟩; omega
        · right; rintro ⟨g1, _⟩; omega
      · rcases Int.lt_or_gt_of_ne hy0 with g | g
        · left; rintro ⟨_, g1⟩; have := g1 y hy; omega
        · right; rintro ⟨_, g1⟩; have := g1 y hy; omega
    · rintro ⟨⟨h4, h5⟩, ⟨h6, h7⟩, h8⟩
      refine ⟨h3.1, h3.2.1, h3.2.2, ⟨⟨h4, h6⟩, fun x hx => ⟨h5 x hx, h7 x hx⟩⟩, ?_⟩
      apply Classical.byContradiction
      intro hn
      have h0 : ∀ x ∈ a :: r, x = 0 := fun x hx => Classical.byContradiction fun hx0 => hn ⟨x, hx, hx0⟩
      have ha : a = 0 := h0 a (by simp)
      rcases h8 with h8 | h8
      · exact h8 ⟨by omega, fun x hx => by rw [h0 x (List.mem_cons_of_mem _ hx)]; omega⟩
      · exact h8 ⟨by omega, fun x hx => by rw [h0 x (List.mem_cons_of_mem _ hx)]; omega⟩
  · rw [Bool.not_eq_true] at h
    simp only [h, Bool.false_and, Bool.false_eq_true, iff_false]
    rintro ⟨h1, h2, h3, _⟩
    rw [endsK_iff.2 ⟨h1, h2, h3⟩] at h; cases h

/-- how far two rows are apart in their first k columns -/
def gapI (a b : List Int) : Nat → Int
  | 0 => 0
  | k + 1 => gapI a b k + (if b.getD k 0 < a.getD k 0 then a.getD k 0 - b.getD k 0 else b.getD k 0 - a.getD k 0)
theorem gapI_bd {a b : List Int} (ha : ∀ x ∈ a, okN x) (hb : ∀ x ∈ b, okN x) (k : Nat) : 0 ≤ gapI a b k ∧ gapI a b k ≤ 4294967295 * k := by
  induction k with
  | zero => simp [gapI]
  | succ k ih =>
    have g : ∀ (l : List Int), (∀ x ∈ l, okN x) → okN (l.getD k 0) := fun l hl => by
      rcases Nat.lt_or_ge k l.length with h | h
      · rw [List.getD_eq_getElem?_getD, List.getElem?_eq_getElem h]; exact hl _ (List.getElem_mem h)
      · rw [List.getD_eq_getElem?_getD, List.getElem?_eq_none h]; unfold okN; simp
    have g1 := g a ha
    have g2 := g b hb
    unfold okN at g1 g2
    simp only [gapI]
    split <;> omega
theorem gapI_symm (a b : List Int) (k : Nat) : gapI a b k = gapI b a k := by
  induction k with
  | zero => rfl
  | succ k ih => simp only [gapI, ih]; split <;> split <;> omega
theorem gapI_tri (a b c : List Int) (k : Nat) : gapI a c k ≤ gapI a b k + gapI b c k := by
  induction k with
  | zero => simp [gapI]
  | succ k ih => simp only [gapI]; split <;> split <;> split <;> omega
theorem gapI_nn (a b : List Int) (k : Nat) : 0 ≤ gapI a b k := by
  induction k with
  | zero => simp [gapI]
  | succ k ih => simp only [gapI]; split <;> omega
theorem gapI_zero (a b : List Int) (k : Nat) : gapI a b k = 0 ↔ ∀ j, j < k → a.getD j 0 = b.getD j 0 := by
  induction k with
  | zero => simp [gapI]
  | succ k ih =>
    have h0 := gapI_nn a b k
    simp only [gapI]
    constructor
    · intro h j hj
      have h1 : gapI a b k = 0 ∧ a.getD k 0 = b.getD k 0 := by split at h <;> omega
      rcases Nat.lt_or_ge j k with g | g
      · exact ih.1 h1.1 j g
      · rw [show j = k from by omega]; exact h1.2
    · intro h
      rw [ih.2 (fun j hj => h j (by omega)), h k (by omega)]
      simp
theorem ext_getD {a b : List Int} (h : a.length = b.length) (g : ∀ j, j < a.length → a.getD j 0 = b.getD j 0) : a = b := by
  refine List.ext_getElem h fun j h1 h2 => ?_
  have := g j h1
  rw [List.getD_eq_getElem?_getD, List.getD_eq_getElem?_getD, List.getElem?_eq_getElem h1, List.getElem?_eq_getElem h2] at this
  exact this
theorem gap_same {a b : List Int} (h : a.length = b.length) : gapI a b a.length = 0 ↔ a = b := by
  rw [gapI_zero]
  exact ⟨fun g => ext_getD h g, fun e => by rw [e]; intros; rfl⟩
/-- the first of those that are nearest, among the first k -/
def nearG (g : Nat → Int) : Nat → Nat × Int
  | 0 => (0, g 0)
  | k + 1 => if g k < (nearG g k).2 then (k, g k) else nearG g k
theorem nearG_one (g : Nat → Int) : nearG g 1 = (0, g 0) := by
  show (if g 0 < g 0 then _ else _) = _
  rw [if_neg (by omega)]; rfl

/-- what may be asked: two vectors of one dimension -/
def gapE (a b : List Int) : Bool := isV a b.length && isV b b.length
theorem gapE_iff {a b : List Int} : gapE a b = true ↔ isV a a.length = true ∧ isV b a.length = true := by
  unfold gapE
  simp only [Bool.and_eq_true, isV_iff]
  constructor
  · rintro ⟨⟨h1, h2, h3, h4⟩, h5, h6, h7, h8⟩; exact ⟨⟨by omega, by omega, trivial, h4⟩, by omega, by omega, by omega, h8⟩
  · rintro ⟨⟨h1, h2, h3, h4⟩, h5, h6, h7, h8⟩; exact ⟨⟨by omega, by omega, by omega, h4⟩, by omega, by omega, trivial, h8⟩
def gapN (a b : List Int) : Int := if gapE a b then gapI a b a.length else 0
def gapC (a b : List Int) : Int := if gapE a b then 0 else 40

/-- which comes first -/
def ordL : List Int → List Int → Int
  | [], [] => 0
  | [], _ :: _ => -1
  | _ :: _, [] => 1
  | x :: a, y :: b => if x < y then -1 else if y < x then 1 else ordL a b
theorem ordL_swap : ∀ a b : List Int, ordL b a = -ordL a b
  | [], [] => rfl
  | [], _ :: _ => rfl
  | _ :: _, [] => rfl
  | x :: a, y :: b => by
    have h := ordL_swap a b
    simp only [ordL]
    split <;> split <;> first | omega | rfl
theorem ordL_zero : ∀ a b : List Int, ordL a b = 0 ↔ a = b
  | [], [] => by simp [ordL]
  | [], _ :: _ => by simp [ordL]
  | _ :: _, [] => by simp [ordL]
  | x :: a, y :: b => by
    have h := ordL_zero a b
    simp only [ordL, List.cons.injEq]
    split
    · simp; omega
    · split
      · simp; omega
      · rw [h]; constructor
        · intro e; exact ⟨by omega, e⟩
        · exact fun e => e.2
theorem ordL_tri : ∀ a b c : List Int, ordL a b < 0 → ordL b c < 0 → ordL a c < 0
  | [], [], _, h, _ => by simp [ordL] at h
  | [], _ :: _, [], _, h => by simp [ordL] at h
  | [], _ :: _, _ :: _, _, _ => by simp [ordL]
  | _ :: _, [], _, h, _ => by simp [ordL] at h
  | _ :: _, _ :: _, [], _, h => by simp [ordL] at h
  | x :: a, y :: b, z :: c, h, g => by
    have hi := ordL_tri a b c
    simp only [ordL] at h g ⊢
    split at h
    · split at g
      · rw [if_pos (by omega)]; omega
      · split at g
        · omega
        · rw [if_pos (by omega)]; omega
    · split at h
      · omega
      · split at g
        · rw [if_pos (by omega)]; omega
        · split at g
          · omega
          · rw [if_neg (by omega), if_neg (by omega)]; exact hi h g
theorem ordL_cases (a b : List Int) : ordL a b = -1 ∨ ordL a b = 0 ∨ ordL a b = 1 := by
  induction a generalizing b with
  | nil => cases b <;> simp [ordL]
  | cons x a ih =>
    cases b with
    | nil => simp [ordL]
    | cons y b =>
      simp only [ordL]
      split
      · simp
      · split
        · simp
        · exact ih b
/-- the same so far: what is behind decides -/
theorem ordL_drop : ∀ (k : Nat) (a b : List Int), k ≤ a.length → k ≤ b.length → (∀ j, j < k → a.getD j 0 = b.getD j 0) → ordL a b = ordL (a.drop k) (b.drop k)
  | 0, a, b, _, _, _ => by simp
  | k + 1, [], b, h, _, _ => by simp at h
  | k + 1, _ :: _, [], _, h, _ => by simp at h
  | k + 1, x :: a, y :: b, h, g, e => by
    have h0 := e 0 (by omega)
    simp at h0
    subst h0
    have hi := ordL_drop k a b (by simp at h; omega) (by simp at g; omega) (fun j hj => by have := e (j + 1) (by omega); simpa using this)
    simp only [ordL, List.drop_succ_cons]
    rw [if_neg (by omega), if_neg (by omega), hi]
theorem drop_get (l : List Int) {k : Nat} (h : k < l.length) : l.drop k = l.getD k 0 :: l.drop (k + 1) := by
  rw [List.drop_eq_getElem_cons h]
  simp [List.getD, h]

theorem ord_at {a b : List Int} {k : Nat} (h : k < a.length) (g : k < b.length) (e : ∀ j, j < k → a.getD j 0 = b.getD j 0) :
    ordL a b = if a.getD k 0 < b.getD k 0 then -1 else if b.getD k 0 < a.getD k 0 then 1 else ordL (a.drop (k + 1)) (b.drop (k + 1)) := by
  rw [ordL_drop k a b (by omega) (by omega) e, drop_get a h, drop_get b g]; rfl
theorem ord_end {a b : List Int} (e : ∀ j, j < a.length → j < b.length → a.getD j 0 = b.getD j 0) :
    ordL a b = if (a.length : Int) < b.length then -1 else if (b.length : Int) < a.length then 1 else 0 := by
  rcases Nat.lt_or_ge b.length a.length with h | h
  · rw [ordL_drop b.length a b (by omega) (by omega) (fun j hj => e j (by omega) hj), drop_get a h, List.drop_length, if_neg (by omega), if_pos (by omega)]; rfl
  · rw [ordL_drop a.length a b (by omega) (by omega) (fun j hj => e j hj (by omega)), List.drop_length]
    rcases Nat.lt_or_ge a.length b.length with g | g
    · rw [drop_get b g, if_pos (by omega)]; rfl
    · rw [show a.length = b.length from by omega, List.drop_length, if_neg (by omega), if_neg (by omega)]; rfl
/-! Rows in memory. -/
structure Row where
  a : Option Addr
  l : List Int
  c : Nat
abbrev row0 : Row := ⟨none, [], 0⟩
def rowV (r : Row) : Value := .slice r.a r.l.length r.c
/-- rows of ints lie from A on, all in blocks below B -/
def LiesR (w : World) (B : Nat) (A : Option Addr) (R : List Row) : Prop :=
  (0 < R.length → ∃ ad : Addr, A = some ad ∧ ad.block < B ∧ ∀ j, j < R.length → w.cell? (ad.add j) = some (rowV (R.getD j row0))) ∧ ∀ r ∈ R, Lies w B r.a r.l
theorem LiesR.below {w w' : World} {B : Nat} {A : Option Addr} {R : List Row} (h : LiesR w B A R) (hb : Below B w w') : LiesR w' B A R := by
  refine ⟨fun h0 => ?_, fun r hr => (h.2 r hr).below hb⟩
  obtain ⟨ad, e, hB, hc⟩ := h.1 h0
  exact ⟨ad, e, hB, fun j hj => (hb.cell (by rw [add_block]; exact hB)).trans (hc j hj)⟩
theorem LiesR.mono {w : World} {B B' : Nat} {A : Option Addr} {R : List Row} (h : LiesR w B A R) (hB : B ≤ B') : LiesR w B' A R := by
  refine ⟨fun h0 => ?_, fun r hr => (h.2 r hr).mono hB⟩
  obtain ⟨ad, e, hb, hc⟩ := h.1 h0
  exact ⟨ad, e, by omega, hc⟩
theorem getD_mem {R : List Row} {k : Nat} (h : k < R.length) : R.getD k row0 ∈ R := by
  rw [List.getD_eq_getElem?_getD, List.getElem?_eq_getElem h]
  exact List.getElem_mem h
theorem LiesR.at {w : World} {B : Nat} {A : Option Addr} {R : List Row} (h : LiesR w B A R) {k : Nat} (hk : k < R.length) :
    ∃ ad : Addr, A = some ad ∧ ad.block < B ∧ w.cell? (ad.add k) = some (.slice (R.getD k row0).a (R.getD k row0).l.length (R.getD k row0).c) ∧ Lies w B (R.getD k row0).a (R.getD k row0).l := by
  obtain ⟨ad, e, hb, hc⟩ := h.1 (by omega)
  exact ⟨ad, e, hb, hc k hk, h.2 _ (getD_mem hk)⟩
theorem LiesR.nil {w : World} {B : Nat} {A : Option Addr} : LiesR w B A [] := ⟨fun h => absurd h (by simp), fun r hr => by cases hr⟩
/-- behind the first k of them -/
theorem lies_cut {w : World} {B c : Nat} {A : Option Addr} {l : List Int} (h : Lies w B A l) (f : Nat) (hf : f ≤ l.length) (hc : l.length ≤ c) :
    Lies w B (if c = f then A else A.map (·.add f)) (l.drop f) := fun h0 => by
  rw [List.length_drop] at h0
  obtain ⟨ad, rfl, hb, hcell⟩ := h (by omega)
  rw [if_neg (by omega)]
  refine ⟨ad.add f, rfl, by rw [add_block]; exact hb, fun j hj => ?_⟩
  rw [List.length_drop] at hj
  rw [Addr.add_add, hcell (f + j) (by omega)]
  congr 2
  rw [List.getD_eq_getElem?_getD, List.getD_eq_getElem?_getD, List.getElem?_drop]
theorem liesR_cut {w : World} {B c : Nat} {A : Option Addr} {R : List Row} (h : LiesR w B A R) (f : Nat) (hf : f ≤ R.length) (hc : R.length ≤ c) :
    LiesR w B (if c = f then A else A.map (·.add f)) (R.drop f) := by
  refine ⟨fun h0 => ?_, fun r hr => h.2 r (List.mem_of_mem_drop hr)⟩
  rw [List.length_drop] at h0
  obtain ⟨ad, rfl, hb, hcell⟩ := h.1 (by omega)
  rw [if_neg (by omega)]
  refine ⟨ad.add f, rfl, by rw [add_block]; exact hb, fun j hj => ?_⟩
  rw [List.length_drop] at hj
  rw [Addr.add_add, hcell (f + j) (by omega)]
  congr 2
  rw [List.getD_eq_getElem?_getD, List.getD_eq_getElem?_getD, List.getElem?_drop]
theorem Lies.at {w : World} {B : Nat} {A : Option Addr} {l : List Int} (h : Lies w B A l) {k : Nat} (hk : k < l.length) :
    ∃ ad : Addr, A = some ad ∧ ad.block < B ∧ w.cell? (ad.add k) = some (.int .i64 (l.getD k 0)) := by
  obtain ⟨ad, e, hb, hc⟩ := h (by omega)
  exact ⟨ad, e, hb, hc k hk⟩
end Go.Proofs.Ytaeodkpkgbjaeaa
/-! Package vec: extremes, ends, Is, Parts. -/
namespace Go.Proofs.Ytaeodkpkgbjaeaa
open Go.RowKit
set_option linter.unusedVariables false
set_option linter.unusedSimpArgs false

theorem min_if (x z : Int) : (if z < x then z else x) = min x z := by split <;> omega
theorem max_if (y z : Int) : (if y < z then z else y) = max y z := by split <;> omega
theorem add_zero' (a : Addr) : a.add 0 = a := by unfold Addr.add; simp
theorem vec_id (n : Int) (w : World) : Calls Try.prog 267 #[.int .i64 n] w fun e w' => e = .returned (.int .i64 n) ∧ w = w' := by
  go_enter Try.func267, Try.ntmps267
  go_wp2
  go_ret
  exact ⟨rfl, rfl⟩

set_option maxHeartbeats 1000000 in
theorem ext_int (A : Option Addr) (l : List Int) (c B : Nat) (lo hi : Int) (w : World) (hA : Lies w B A l) (hl : (l.length : Int) ≤ 9223372036854775807) :
    Calls Try.prog 266 #[.int .i64 lo, .int .i64 hi, .slice A l.length c, .func (.func 267) #[] #[]] w fun e w' => e = .returned (.tuple #[.int .i64 (loL lo l), .int .i64 (hiL hi l)]) ∧ w = w' := by
  have HA := Lib.hid hA
  clear hA
  generalize hN : l.length = N at *
  have HN := Lib.hid hN
  clear hN
  go_enter Try.func266, Try.ntmps266
  go_wp2
  go_loop [0, 1, 15] (fun a b i => ∃ (k : Nat) (x y : Int), k ≤ N ∧ i = .int .i64 k ∧ a = .int .i64 x ∧ b = .int .i64 y ∧ Hid (x = loL lo (l.take k)) ∧ Hid (y = hiL hi (l.take k))) (fun _ _ i => N - (intOf i).toNat)
  case atStart => exact ⟨0, _, _, by omega, rfl, rfl, rfl, rfl, rfl⟩
  case round =>
    obtain ⟨k, x, y, hk, rfl, rfl, rfl, HX, HY⟩ := hrel
    by_cases hlt : k < N
    · obtain ⟨ad, rfl, hadb, hcell⟩ := HA.out.at (k := k) (by have := HN.out; omega)
      have HL := Lib.hid (loL_take lo l (k := k) (by have := HN.out; omega))
      have HH := Lib.hid (hiL_take hi l (k := k) (by have := HN.out; omega))
      generalize l.getD k 0 = z at *
      go_wp2_with fail
      refine (vec_id z _).mono ?_
      rintro e w1 ⟨rfl, rfl⟩
      go_wp2
      go_round
      case rel => exact ⟨k + 1, _, _, by omega, by go_num, rfl, rfl, (by show _ = _; rw [HL.out, ← HX.out, ← min_if]), (by show _ = _; rw [HH.out, ← HY.out, ← max_if])⟩
      case measure => simp [intOf]; omega
    · obtain rfl : k = N := by omega
      go_wp2
      go_ret2
      have h1 : l.take k = l := List.take_of_length_le (by have := HN.out; omega)
      exact ⟨ret2i (HX.out.trans (by rw [h1])) (HY.out.trans (by rw [h1])), rfl⟩

set_option maxRecDepth 100000 in
set_option maxHeartbeats 1000000 in
theorem vec_ends (A : Option Addr) (l : List Int) (c B : Nat) (d : Int) (w : World) (hA : Lies w B A l) (hl : (l.length : Int) ≤ 9223372036854775807) (hc : l.length ≤ c) :
    Calls Try.prog 256 #[.slice A l.length c, .int .i64 d] w fun e w' => e = .returned (.tuple #[.int .i64 (endsL l d), .int .i64 (endsH l d), .bool (endsK l d)]) ∧ ∃ n, w' = w.drewN n := by
  cases hK : endsK l d with
  | false =>
    have hb : (decide (d < 1) || decide (8 < d) || decide ((l.length : Int) ≠ d)) = true := by
      unfold endsK at hK
      simp only [decide_eq_false_iff_not] at hK
      simp only [Bool.or_eq_true, decide_eq_true_eq]
      omega
    have h1 : endsL l d = 0 := by unfold endsL; rw [if_neg (by rw [hK]; simp)]
    have h2 : endsH l d = 0 := by unfold endsH; rw [if_neg (by rw [hK]; simp)]
    rw [h1, h2]
    clear hA hK h1 h2
    generalize l.length = N at *
    by_cases g1 : d < 1
    · go_enter Try.func256, Try.ntmps256
      go_wp2
      go_ret3
      exact ⟨rfl, 0, rfl⟩
    · by_cases g2 : 8 < d
      · go_enter Try.func256, Try.ntmps256
        go_wp2
        go_ret3
        exact ⟨rfl, 0, rfl⟩
      · have g3 : ((N : Int) != d) = true := by
          simp only [Bool.or_eq_true, decide_eq_true_eq] at hb
          simp; omega
        clear hb
        go_enter Try.func256, Try.ntmps256
        go_wp2
        go_ret3
        exact ⟨rfl, 0, rfl⟩
  | true =>
    obtain ⟨a, r, rfl, e1, e2⟩ := ends_cons hK
    obtain ⟨k1, k2, k3⟩ := endsK_iff.1 hK
    rw [e1, e2]
    obtain ⟨ad, rfl, hadb, hcell⟩ := hA.at (k := 0) (by simp)
    simp only [List.getD_cons_zero] at hcell
    have hcell' : w.cell? ad = some (.int .i64 a) := by rw [add_zero'] at hcell; exact hcell
    have hcut := lies_cut hA 1 (by simp) hc
    rw [List.drop_succ_cons, List.drop_zero] at hcut
    obtain ⟨M, hM⟩ : ∃ M, M = (a :: r).length := ⟨_, rfl⟩
    rw [← hM] at hc hl k3 ⊢
    subst k3
    have hr : r.length = M - 1 := by rw [hM]; rfl
    have K := Lib.hid (fun A W (h : Lies W B A r) => hr ▸ ext_int A r (c - 1) B a a W h (by omega))
    have g4 : (M : Int) ≤ (c : Int) := by omega
    have g5 : 0 < M := by omega
    have g6 : (1 : Int) ≤ M := by omega
    generalize loL a r = x at *
    generalize hiL a r = y at *
    by_cases h1 : c = 1
    · rw [if_pos h1] at hcut
      have HC := Lib.hid hcut
      clear hcut hA hK e1 e2 hr hM
      subst h1
      obtain rfl : M = 1 := by omega
      go_enter Try.func256, Try.ntmps256
      go_wp2
      go_quiet ((go_at_call 266; exact Calls.quiet_of_same (still_of (K.out _ _ HC.out))))
      go_wp2
      go_ret3
      exact ⟨rfl, _, rfl⟩
    · rw [if_neg h1] at hcut
      have HC := Lib.hid hcut
      clear hcut hA hK e1 e2 hr hM
      go_enter Try.func256, Try.ntmps256
      go_wp2
      go_quiet ((go_at_call 266; exact Calls.quiet_of_same (still_of (K.out _ _ HC.out))))
      go_wp2
      go_ret3
      exact ⟨rfl, _, rfl⟩
end Go.Proofs.Ytaeodkpkgbjaeaa
/-! Package vec: Is, Parts, check, dot, Dot, gap, Gap, compared, Order, In. -/
namespace Go.Proofs.Ytaeodkpkgbjaeaa
open Go.RowKit
set_option linter.unusedVariables false
set_option linter.unusedSimpArgs false

theorem dre2' (w : World) (a b : Nat) : ∃ n, (w.drewN a).drewN b = w.drewN n := ⟨_, World.drewN_drewN _ _ _⟩
theorem ret_bool {a b : Bool} (h : a = b) : Ending.returned (.bool a) = .returned (.bool b) := by rw [h]
set_option maxHeartbeats 2000000 in
theorem vec_parts (A : Option Addr) (l : List Int) (c B : Nat) (d : Int) (w : World) (hA : Lies w B A l) (hl : (l.length : Int) ≤ 9223372036854775807) (hc : l.length ≤ c) :
    Calls Try.prog 229 #[.slice A l.length c, .int .i64 d] w fun e w' => e = .returned (.bool (partsV l d)) ∧ ∃ n, w' = w.drewN n := by
  have K := Lib.hid (vec_ends A l c B d w hA hl hc)
  have HR := Lib.hid (partsV_ends l d)
  generalize partsV l d = R at *
  generalize endsL l d = L at *
  generalize endsH l d = H at *
  generalize endsK l d = b at *
  clear hA hc hl
  generalize l.length = N at *
  by_cases h1 : -4 ≤ L <;> by_cases h2 : H ≤ 4 <;> by_cases h3 : L < 0 <;> by_cases h4 : 0 < H <;> cases b
  all_goals try (exfalso; omega)
  all_goals
    go_enter Try.func229, Try.ntmps229
    go_wp2_with fail
    refine K.out.mono ?_
    rintro e w1 ⟨rfl, n, rfl⟩
    go_wp2
    go_ret
    exact ⟨ret_bool (by rw [HR.out]; simp [h1, h2, h3, h4]), n, rfl⟩
/-- all of a list of rows are vectors -/
def allV (R : List Row) (d : Int) : Bool := R.all fun r => isV r.l d
def chkV (R : List Row) (d : Int) : Int := if R.length = 0 then 80 else if allV R d then 0 else 80
/-- rows that came in: their capacities and numbers are as they may be -/
def OkR (R : List Row) : Prop := ∀ r ∈ R, r.l.length ≤ r.c ∧ (r.c : Int) ≤ 9223372036854775807 ∧ ∀ x ∈ r.l, I64 x
theorem allV_take {R : List Row} {d : Int} {k : Nat} (hk : k < R.length) : allV (R.take (k + 1)) d = (allV (R.take k) d && isV (R.getD k row0).l d) := by
  unfold allV
  rw [List.take_succ_eq_append_getElem hk, List.all_append]
  simp [List.getD, hk]
theorem allV_false {R : List Row} {d : Int} {k : Nat} (hk : k < R.length) (h : isV (R.getD k row0).l d = false) : allV R d = false := by
  unfold allV
  rw [Bool.eq_false_iff]
  intro g
  rw [List.all_eq_true] at g
  rw [g _ (getD_mem hk)] at h
  cases h
end Go.Proofs.Ytaeodkpkgbjaeaa
/-! Package vec: dot, Dot, gap, Gap, Order, In. -/
namespace Go.Proofs.Ytaeodkpkgbjaeaa
open Go.RowKit
set_option linter.unusedVariables false
set_option linter.unusedSimpArgs false

theorem dre3' (w : World) (a b c : Nat) : ∃ n, ((w.drewN a).drewN b).drewN c = w.drewN n := by
  obtain ⟨n, h⟩ := dre2' w a b
  rw [h]; exact dre2' _ _ _
def okC (x : Int) : Prop := -4 ≤ x ∧ x ≤ 4
theorem mul_okC {x y : Int} (hx : okC x) (hy : okN y) : -8589934592 ≤ x * y ∧ x * y ≤ 8589934592 := by
  unfold okC at hx; unfold okN at hy
  have h : x = -4 ∨ x = -3 ∨ x = -2 ∨ x = -1 ∨ x = 0 ∨ x = 1 ∨ x = 2 ∨ x = 3 ∨ x = 4 := by omega
  rcases h with rfl | rfl | rfl | rfl | rfl | rfl | rfl | rfl | rfl <;> omega
theorem getD_okC {l : List Int} (h : ∀ x ∈ l, okC x) (k : Nat) : okC (l.getD k 0) := by
  rcases Nat.lt_or_ge k l.length with g | g
  · rw [List.getD_eq_getElem?_getD, List.getElem?_eq_getElem g]; exact h _ (List.getElem_mem g)
  · rw [List.getD_eq_getElem?_getD, List.getElem?_eq_none g]; unfold okC; simp
theorem getD_okN {l : List Int} (h : ∀ x ∈ l, okN x) (k : Nat) : okN (l.getD k 0) := by
  rcases Nat.lt_or_ge k l.length with g | g
  · rw [List.getD_eq_getElem?_getD, List.getElem?_eq_getElem g]; exact h _ (List.getElem_mem g)
  · rw [List.getD_eq_getElem?_getD, List.getElem?_eq_none g]; unfold okN; simp
theorem dotI_v {c v : List Int} (hc : ∀ x ∈ c, okC x) (hv : ∀ x ∈ v, okN x) (k : Nat) : -(8589934592 * (k : Int)) ≤ dotI c v k ∧ dotI c v k ≤ 8589934592 * k := by
  induction k with
  | zero => simp [dotI]
  | succ k ih =>
    have h := mul_okC (getD_okC hc k) (getD_okN hv k)
    simp only [dotI]
    omega
/-- what Dot tells -/
def dotE (a b : List Int) : Bool := partsV a a.length && isV b a.length
def dotN (a b : List Int) : Int := if dotE a b then dotI a b a.length else 0
def dotC (a b : List Int) : Int := if dotE a b then 0 else 80
theorem dotE_iff {a b : List Int} : dotE a b = true ↔ partsV a a.length = true ∧ isV b a.length = true := by unfold dotE; simp
theorem dotE_ok {a b : List Int} (h : dotE a b = true) : (∀ x ∈ a, okC x) ∧ (∀ x ∈ b, okN x) ∧ b.length = a.length ∧ a.length ≤ 8 := by
  obtain ⟨h1, h2⟩ := dotE_iff.1 h
  obtain ⟨_, g1, _, g2, _⟩ := partsV_iff.1 h1
  obtain ⟨_, _, g3, g4⟩ := isV_iff.1 h2
  exact ⟨g2, g4, by omega, by omega⟩
def gapNN (a b : List Int) : Int := if gapE a b then gapI a b a.length else 0
def gapCC (a b : List Int) : Int := if gapE a b then 0 else 80
theorem gapE_ok {a b : List Int} (h : gapE a b = true) : (∀ x ∈ a, okN x) ∧ (∀ x ∈ b, okN x) ∧ b.length = a.length ∧ a.length ≤ 8 := by
  obtain ⟨h1, h2⟩ := gapE_iff.1 h
  obtain ⟨_, g1, _, g2⟩ := isV_iff.1 h1
  obtain ⟨_, _, g3, g4⟩ := isV_iff.1 h2
  exact ⟨g2, g4, by omega, by omega⟩
end Go.Proofs.Ytaeodkpkgbjaeaa
/-! Package vec: In; the reference's Same, Is, Parts. -/
namespace Go.Proofs.Ytaeodkpkgbjaeaa
open Go.RowKit
set_option linter.unusedVariables false
set_option linter.unusedSimpArgs false

/-- whether v is nowhere below lo or above hi -/
def inV (lo hi v : List Int) : Bool := decide (lo.length = v.length ∧ hi.length = v.length ∧ ∀ j, j < v.length → lo.getD j 0 ≤ v.getD j 0 ∧ v.getD j 0 ≤ hi.getD j 0)
theorem inV_iff {lo hi v : List Int} : inV lo hi v = true ↔ lo.length = v.length ∧ hi.length = v.length ∧ ∀ j, j < v.length → lo.getD j 0 ≤ v.getD j 0 ∧ v.getD j 0 ≤ hi.getD j 0 := by unfold inV; exact decide_eq_true_iff
theorem inV_no {lo hi v : List Int} {k : Nat} (hk : k < v.length) (h : ¬ (lo.getD k 0 ≤ v.getD k 0 ∧ v.getD k 0 ≤ hi.getD k 0)) : inV lo hi v = false := by
  rw [Bool.eq_false_iff]; intro g; exact h ((inV_iff.1 g).2.2 k hk)
theorem inV_len {lo hi v : List Int} (h : ¬ (lo.length = v.length ∧ hi.length = v.length)) : inV lo hi v = false := by
  rw [Bool.eq_false_iff]; intro g; exact h ⟨(inV_iff.1 g).1, (inV_iff.1 g).2.1⟩
/-! ### the reference's -/
set_option maxHeartbeats 1000000 in
theorem ref_same1 (A A2 : Option Addr) (l m : List Int) (c c2 B : Nat) (w : World) (hA : Lies w B A l) (hA2 : Lies w B A2 m) (hl : (l.length : Int) ≤ 9223372036854775807) (hm : (m.length : Int) ≤ 9223372036854775807) :
    Calls Try.prog 62 #[.slice A l.length c, .slice A2 m.length c2] w fun e w' => e = .returned (.bool (decide (l = m))) ∧ ∃ n, w' = w.drewN n := by
  by_cases hlen : l.length = m.length
  · have HL := Lib.hid hlen
    rw [← hlen]
    have HA := Lib.hid hA
    have HA2 := Lib.hid hA2
    have HYES : Hid ((∀ j, j < l.length → l.getD j 0 = m.getD j 0) → decide (l = m) = true) := fun h => decide_eq_true (ext_getD hlen h)
    have HNO : Hid (∀ k : Nat, l.getD k 0 ≠ m.getD k 0 → decide (l = m) = false) := fun k h => decide_eq_false (fun e => h (by rw [e]))
    generalize decide (l = m) = R at *
    clear hA hA2 hlen
    generalize hN : l.length = N at *
    have HN := Lib.hid hN
    clear hN
    go_enter Try.func62, Try.ntmps62
    go_wp2
    go_loopw [5] (fun i wr => ∃ k : Nat, k ≤ N ∧ i = .int .i64 k ∧ Hid (∀ j, j < k → l.getD j 0 = m.getD j 0) ∧ Hid (∃ n, wr = w.drewN n)) (fun i _ => N - (intOf i).toNat)
    case atStart => exact ⟨0, by omega, rfl, fun j hj => absurd hj (by omega), ⟨0, rfl⟩⟩
    case round =>
      obtain ⟨k, hk, rfl, HE, HW⟩ := hrel
      by_cases hlt : k < N
      · have HAr : Hid (Lies wr B A l) := by obtain ⟨n, hn⟩ := HW.out; show Lies _ _ _ _; rw [hn]; exact HA.out
        have HAr2 : Hid (Lies wr B A2 m) := by obtain ⟨n, hn⟩ := HW.out; show Lies _ _ _ _; rw [hn]; exact HA2.out
        obtain ⟨ad, rfl, _, hc1⟩ := HAr.out.at (k := k) (by have := HN.out; omega)
        obtain ⟨ad2, rfl, _, hc2⟩ := HAr2.out.at (k := k) (by have := HL.out; have := HN.out; omega)
        have HX : Hid (l.getD k 0 = m.getD k 0 → ∀ j, j < k + 1 → l.getD j 0 = m.getD j 0) := fun h j hj => by
          rcases Nat.lt_or_ge j k with g | g
          · exact HE.out j g
          · rw [show j = k from by omega]; exact h
        have HF := Lib.hid (HNO.out k)
        generalize l.getD k 0 = x at *
        generalize m.getD k 0 = y at *
        have hji : (k : Int) < (N : Int) := by omega
        by_cases hxy : x = y
        · subst hxy
          have HR := Lib.hid (HX.out rfl)
          clear HF HX
          go_wp2
          go_quiet (fail)
          go_wp2
          exact ⟨⟨k + 1, by omega, by go_num, HR.out, (by obtain ⟨m, hm⟩ := HW.out; show ∃ _, _; rw [hm]; exact dre2' _ _ _)⟩, by first | (simp [intOf]; done) | (simp [intOf]; omega)⟩
        · have hne : (x != y) = true := by simpa using hxy
          have HR := Lib.hid (HF.out hxy)
          clear HF HX
          go_wp2
          go_quiet (fail)
          go_wp2
          go_ret
          exact ⟨ret_bool HR.out.symm, (by obtain ⟨m, hm⟩ := HW.out; rw [hm]; exact dre2' _ _ _)⟩
      · obtain rfl : k = N := by omega
        go_wp2
        go_ret
        exact ⟨ret_bool (HYES.out HE.out).symm, HW.out⟩
  · have hR : decide (l = m) = false := decide_eq_false (fun e => hlen (by rw [e]))
    rw [hR]
    clear hA hA2 hR
    generalize l.length = N at *
    generalize m.length = M at *
    have hne : ((N : Int) != (M : Int)) = true := by simp; omega
    clear hlen
    go_enter Try.func62, Try.ntmps62
    go_wp2
    go_ret
    exact ⟨rfl, 0, rfl⟩
end Go.Proofs.Ytaeodkpkgbjaeaa
/-! The reference of layer 8: Is, Parts, Dot, Gap, Order. -/
namespace Go.Proofs.Ytaeodkpkgbjaeaa
open Go.RowKit
set_option linter.unusedVariables false
set_option linter.unusedSimpArgs false

theorem isV_no {v : List Int} {d : Int} (h : ¬ (1 ≤ d ∧ d ≤ 8 ∧ (v.length : Int) = d)) : isV v d = false := by
  rw [Bool.eq_false_iff]; intro g; obtain ⟨h1, h2, h3, _⟩ := isV_iff.1 g; exact h ⟨h1, h2, h3⟩
theorem partsV_no {v : List Int} {d : Int} (h : ¬ (1 ≤ d ∧ d ≤ 8 ∧ (v.length : Int) = d)) : partsV v d = false := by
  rw [Bool.eq_false_iff]; intro g; obtain ⟨h1, h2, h3, _⟩ := partsV_iff.1 g; exact h ⟨h1, h2, h3⟩
theorem mem_getD {l : List Int} {k : Nat} (h : k < l.length) : l.getD k 0 ∈ l := by
  rw [List.getD_eq_getElem?_getD, List.getElem?_eq_getElem h]; exact List.getElem_mem h
theorem all_getD {l : List Int} {P : Int → Prop} (h : ∀ j, j < l.length → P (l.getD j 0)) : ∀ x ∈ l, P x := fun x hx => by
  obtain ⟨j, hj, rfl⟩ := List.mem_iff_getElem.1 hx
  have := h j hj
  rw [List.getD_eq_getElem?_getD, List.getElem?_eq_getElem hj] at this
  exact this
theorem ref_parts_no (A : Option Addr) (N c : Nat) (d : Int) (w : World) (h : ¬ (1 ≤ d ∧ d ≤ 8 ∧ (N : Int) = d)) :
    Calls Try.prog 206 #[.slice A N c, .int .i64 d] w fun e w' => e = .returned (.bool false) ∧ w = w' := by
  by_cases g1 : d < 1
  · clear h
    go_enter Try.func206, Try.ntmps206
    go_wp2
    go_ret
    exact ⟨rfl, rfl⟩
  · by_cases g2 : 8 < d
    · clear h
      go_enter Try.func206, Try.ntmps206
      go_wp2
      go_ret
      exact ⟨rfl, rfl⟩
    · have g3 : ((N : Int) != d) = true := by simp; omega
      clear h
      go_enter Try.func206, Try.ntmps206
      go_wp2
      go_ret
      exact ⟨rfl, rfl⟩
/-- some of the first k is not 0 -/
def someK (l : List Int) : Nat → Bool
  | 0 => false
  | k + 1 => someK l k || (l.getD k 0 != 0)
theorem someK_iff (l : List Int) (k : Nat) : someK l k = true ↔ ∃ j, j < k ∧ l.getD j 0 ≠ 0 := by
  induction k with
  | zero => simp [someK]
  | succ k ih =>
    simp only [someK, Bool.or_eq_true, ih, bne_iff_ne]
    constructor
    · rintro (⟨j, h1, h2⟩ | h)
      · exact ⟨j, by omega, h2⟩
      · exact ⟨k, by omega, h⟩
    · rintro ⟨j, h1, h2⟩
      rcases Nat.lt_or_ge j k with g | g
      · exact .inl ⟨j, g, h2⟩
      · right; rw [show k = j from by omega]; exact h2
set_option maxHeartbeats 1000000 in
theorem ref_parts (A : Option Addr) (l : List Int) (c B : Nat) (d : Int) (w : World) (hA : Lies w B A l) :
    Calls Try.prog 206 #[.slice A l.length c, .int .i64 d] w fun e w' => e = .returned (.bool (partsV l d)) ∧ w = w' := by
  by_cases h : 1 ≤ d ∧ d ≤ 8 ∧ (l.length : Int) = d
  · obtain ⟨h1, h2, rfl⟩ := h
    have HA := Lib.hid hA
    have HYES : Hid ((∀ j, j < l.length → okC (l.getD j 0)) → someK l l.length = partsV l l.length) := fun h => by
      show _ = _
      rw [Bool.eq_iff_iff, someK_iff, partsV_iff]
      constructor
      · rintro ⟨j, g1, g2⟩
        exact ⟨h1, h2, rfl, all_getD (P := okC) h, _, mem_getD g1, g2⟩
      · rintro ⟨_, _, _, _, x, hx, hx0⟩
        obtain ⟨j, hj, rfl⟩ := List.mem_iff_getElem.1 hx
        exact ⟨j, hj, by rw [List.getD_eq_getElem?_getD, List.getElem?_eq_getElem hj]; exact hx0⟩
    have HNO : Hid (∀ k, k < l.length → ¬ okC (l.getD k 0) → partsV l l.length = false) := fun k hk h => by
      rw [Bool.eq_false_iff]; intro g; exact h ((partsV_iff.1 g).2.2.2.1 _ (mem_getD hk))
    generalize partsV l l.length = R at *
    clear hA
    generalize hN : l.length = N at *
    have HN := Lib.hid hN
    clear hN
    go_enter Try.func206, Try.ntmps206
    go_wp2
    go_loop [5, 6] (fun s i => ∃ k : Nat, k ≤ N ∧ i = .int .i64 k ∧ s = .bool (someK l k) ∧ Hid (∀ j, j < k → okC (l.getD j 0))) (fun _ i => N - (intOf i).toNat)
    case atStart => exact ⟨0, by omega, rfl, rfl, fun j hj => absurd hj (by omega)⟩
    case round =>
      obtain ⟨k, hk, rfl, rfl, HE⟩ := hrel
      by_cases hlt : k < N
      · obtain ⟨ad, rfl, _, hc1⟩ := HA.out.at (k := k) (by have := HN.out; omega)
        have HX : Hid (okC (l.getD k 0) → ∀ j, j < k + 1 → okC (l.getD j 0)) := fun h j hj => by
          rcases Nat.lt_or_ge j k with g | g
          · exact HE.out j g
          · rw [show j = k from by omega]; exact h
        have HF := Lib.hid (HNO.out k hlt)
        have HS : Hid (someK l (k + 1) = (someK l k || (l.getD k 0 != 0))) := rfl
        generalize l.getD k 0 = x at *
        generalize someK l k = s at *
        by_cases g1 : x < -4
        · have HR := Lib.hid (HF.out (by unfold okC; omega))
          go_wp2
          go_ret
          exact ⟨ret_bool HR.out.symm, rfl⟩
        · by_cases g2 : 4 < x
          · have HR := Lib.hid (HF.out (by unfold okC; omega))
            go_wp2
            go_ret
            exact ⟨ret_bool HR.out.symm, rfl⟩
          · have HR := Lib.hid (HX.out (by unfold okC; omega))
            cases s
            all_goals
              go_wp2
              go_round
              case rel => exact ⟨k + 1, by omega, by go_num, by rw [HS.out]; simp, HR.out⟩
              case measure => simp [intOf]; omega
      · obtain rfl : k = N := by omega
        go_wp2
        go_ret
        exact ⟨ret_bool (HYES.out HE.out), rfl⟩
  · rw [partsV_no h]
    exact ref_parts_no A l.length c d w h
end Go.Proofs.Ytaeodkpkgbjaeaa
/-! The reference of layer 8: Dot, Gap, Order, All, Much. -/
namespace Go.Proofs.Ytaeodkpkgbjaeaa
open Go.RowKit
set_option linter.unusedVariables false
set_option linter.unusedSimpArgs false

theorem allV_nil (d : Int) : allV [] d = true := rfl
/-- more rows than most, or one that is longer than 20 -/
def muchV (R : List Row) (m : Int) : Bool := decide (m < R.length) || R.any fun r => decide (20 < r.l.length)
theorem muchV_no {R : List Row} {m : Int} (h : muchV R m = false) : (R.length : Int) ≤ m ∧ ∀ r ∈ R, r.l.length ≤ 20 := by
  unfold muchV at h
  rw [Bool.or_eq_false_iff] at h
  refine ⟨by have := of_decide_eq_false h.1; omega, fun r hr => ?_⟩
  have h2 := h.2
  rw [List.any_eq_false] at h2
  have := h2 r hr
  simp at this
  exact this
theorem muchV_yes {R : List Row} {m : Int} {k : Nat} (hk : k < R.length) (h : 20 < (R.getD k row0).l.length) : muchV R m = true := by
  unfold muchV
  rw [Bool.or_eq_true]
  right
  rw [List.any_eq_true]
  exact ⟨_, getD_mem hk, decide_eq_true h⟩
theorem muchV_end {R : List Row} {m : Int} (h0 : (R.length : Int) ≤ m) (h : ∀ j, j < R.length → (R.getD j row0).l.length ≤ 20) : muchV R m = false := by
  unfold muchV
  rw [Bool.or_eq_false_iff]
  refine ⟨decide_eq_false (by omega), ?_⟩
  rw [List.any_eq_false]
  intro r hr
  obtain ⟨j, hj, rfl⟩ := List.mem_iff_getElem.1 hr
  have := h j hj
  rw [List.getD_eq_getElem?_getD, List.getElem?_eq_getElem hj] at this
  simpa using this
end Go.Proofs.Ytaeodkpkgbjaeaa
/-! Lists of the call's own: one number more, a copy; rows that are stored into. -/
namespace Go.Proofs.Ytaeodkpkgbjaeaa
open Go.RowKit
set_option linter.unusedVariables false
set_option linter.unusedSimpArgs false

def litI (l : List Int) : List Value := l.map (Value.int .i64)
theorem litI_len (l : List Int) : (litI l).length = l.length := by simp [litI]
theorem litI_snoc (l : List Int) (d : Int) : litI l ++ [Value.int .i64 d] = litI (l ++ [d]) := by simp [litI]
theorem litI_get (l : List Int) (j : Nat) (h : j < l.length) : (litI l)[j]? = some (.int .i64 (l.getD j 0)) := by
  simp [litI, List.getD, h]
theorem infoI : (Try.prog.info? 3).map (fun i => (i.zero, i.size, i.bytes)) = some (some (.int .i64 0), 1, 8) := by kernel_rfl
theorem lies_ownI {w : World} {base : Nat} {e : TypeId} {v : Value} {l : List Int} (h : w.ownsRow base e 1 v l.length (litI l)) :
    ∃ A c, v = .slice A l.length c ∧ l.length ≤ c ∧ c ≤ maxLen ∧ Lies w w.heap.size A l := by
  rcases h.2 with ⟨rfl, h0⟩ | ⟨g, cap, cur, rfl, hb, hh, hnc, hm, hsz, hx⟩
  · rw [h0]
    exact ⟨none, 0, rfl, by omega, by unfold maxLen; omega, fun h1 => absurd h1 (by omega)⟩
  · refine ⟨_, cap, rfl, hnc, hm, fun _ => ⟨⟨g, 0, none⟩, rfl, ?_, fun j hj => ?_⟩⟩
    · rcases Nat.lt_or_ge g w.heap.size with hlt | hge
      · exact hlt
      · rw [Array.getElem?_eq_none hge] at hh; cases hh
    · have h1 : (⟨g, 0, none⟩ : Addr).add j = ⟨g, j, none⟩ := by unfold Addr.add; split <;> simp_all
      rw [h1]
      refine (cell_of_row w g j _ _ (0, 0) hh).trans ?_
      rw [← litI_get l j hj, ← hx, List.getElem?_take]
      simp
      intro h2; omega
theorem ownI_below {w w' : World} {B : Nat} {v : Value} {n : Nat} {xs : List Value} (h : w.ownsRow B 3 1 v n xs) (hb : Below w.heap.size w w') : w'.ownsRow B 3 1 v n xs := by
  refine h.kept ⟨hb.os, hb.tape, hb.output, hb.size, fun k hk _ => hb.block k hk⟩ (row := none) ?_
  rcases h.2 with ⟨rfl, _⟩ | ⟨g, cap, cur, rfl, _⟩ <;> simp [Value.ownBlock]
theorem own_neI {w : World} {B g : Nat} {v : Value} {n s : Nat} {xs : List Value} {e T : TypeId} {cs : Array Value} (h : w.ownsRow B e s v n xs) (hx : Box w g cs T) (hT : T ≠ e) : v.ownBlock ≠ some g := by
  rcases h.2 with ⟨rfl, _⟩ | ⟨g', cap, cur, rfl, _, hh, _⟩
  · simp [Value.ownBlock]
  · simp only [Value.ownBlock, ne_eq, Option.some.injEq]
    rintro rfl
    unfold Box at hx
    rw [hh] at hx
    simp at hx
    exact hT hx.2.symm
/-- one number more onto a list of the call's own -/
theorem app_int {B : Nat} {wr : World} {ops : Array Oper} {rest : List Oper} {o : Oper} {a : Act} {Q : Exit → Act → World → Prop} (hgd : o.guard = none) (s x : Operand)
    (ho : o.op = .call { callee := .builtin .append, args := #[s, x], argTypes := #[97, 97] })
    (v : Value) (l : List Int) (d : Int) (hs : a.eval s = v) (hown : wr.ownsRow B 3 1 v l.length (litI l)) (hx : a.eval x = .slice (some ⟨wr.heap.size, 0, none⟩) 1 1)
    (hB : B ≤ wr.heap.size) (hn : l.length + 1 ≤ 1000000000)
    (h : ∀ v' w', w'.ownsRow B 3 1 v' (l ++ [d]).length (litI (l ++ [d])) → Below B wr w' → (∀ (g : Nat) (cs : Array Value) (T : TypeId), T ≠ 3 → Box wr g cs T → Box w' g cs T) → wpList Try.prog ops Q rest (a.put o.dst v') w') :
    wpList Try.prog ops Q (o :: rest) a (wr.alloc (.cells #[.int .i64 d] 3)) := by
  obtain ⟨i0, hi, hz0, hz1, hz2⟩ := info_parts infoI
  refine wpList_append_own _ hgd s x 97 ho B 3 i0 (.int .i64 0) 1 8 Try.underlying97 hi hz0 hz1 hz2 rfl (by decide) v l.length (litI l) hs (hown.alloc _) ⟨wr.heap.size, 0, none⟩ 1 1 [.int .i64 d] hx rfl ?_ ?_ ?_ ?_ ?_ ?_
  · intro j u hj
    cases j with
    | zero =>
      simp only [List.getElem?_cons_zero] at hj
      rw [← hj]
      exact cell_of_row _ _ 0 _ _ (0, 0) (heap_alloc_new wr _)
    | succ j => simp at hj
  · intro u hu; rw [List.mem_singleton.1 hu]; rfl
  · unfold maxLen; omega
  · omega
  · simp; omega
  · intro v' w' h1 h2 _
    refine h v' w' ?_ ?_ ?_
    · rw [List.length_append, ← litI_snoc]; exact h1
    · refine ((Below.refl _ _).alloc hB _).grown h2 (by simp; omega) fun k hk => ?_
      rcases hown.2 with ⟨rfl, _⟩ | ⟨g, cap, cur, rfl, hg, _⟩
      · simp [Value.ownBlock] at hk
      · simp only [Value.ownBlock, Option.some.injEq] at hk; omega
    · intro g cs T hT hb
      have hb2 := hb.alloc (.cells #[.int .i64 d] 3)
      exact (h2.block g hb2.lt (fun e => own_neI (hown.alloc (.cells #[.int .i64 d] 3)) hb2 hT e.symm)).trans hb2
/-- it gives a row of these numbers, of the call's own -/
def GivesI (l : List Int) (w : World) (e : Ending) (w' : World) : Prop := ∃ A c, e = .returned (.slice A l.length c) ∧ l.length ≤ c ∧ c ≤ maxLen ∧ Lies w' w'.heap.size A l ∧ Below w.heap.size w w'

/-- the indices below k at which lo is below hi -/
def openK (lo hi : List Int) : Nat → List Int
  | 0 => []
  | k + 1 => if lo.getD k 0 < hi.getD k 0 then openK lo hi k ++ [(k : Int)] else openK lo hi k
theorem openK_len (lo hi : List Int) (k : Nat) : (openK lo hi k).length ≤ k := by
  induction k with
  | zero => simp [openK]
  | succ k ih =>
    simp only [openK]
    split
    · rw [List.length_append]; simp; exact ih
    · omega
def openL (lo hi : List Int) : List Int := openK lo hi (min lo.length hi.length)
theorem below_drewN2 {B : Nat} {a w : World} (h : Below B a w) (n : Nat) : Below B a (w.drewN n) := ⟨h.os, h.tape, h.output, h.size, h.block⟩
theorem ownI_drewN {w : World} {B : Nat} {v : Value} {n : Nat} {xs : List Value} (h : w.ownsRow B 3 1 v n xs) (k : Nat) : (w.drewN k).ownsRow B 3 1 v n xs := ownI_below h (below_drewN2 (Below.refl _ _) k)
end Go.Proofs.Ytaeodkpkgbjaeaa
/-! The reference of layer 8: Open, Reach, Near; package vec: extremes of rows. -/
namespace Go.Proofs.Ytaeodkpkgbjaeaa
open Go.RowKit
set_option linter.unusedVariables false
set_option linter.unusedSimpArgs false

/-! ### the reach -/
def dnR (c : List Int) (R : List Row) : List Int := R.map fun r => dotN c r.l
theorem dnR_get (c : List Int) (R : List Row) {k : Nat} (hk : k < R.length) : (dnR c R).getD k 0 = dotN c (R.getD k row0).l := by
  unfold dnR
  rw [List.getD_eq_getElem?_getD, List.getElem?_map, List.getD_eq_getElem?_getD, List.getElem?_eq_getElem hk]; rfl
def reachE (c : List Int) (R : List Row) : Bool := partsV c c.length && (allV R c.length && decide (0 < R.length))
def reachLo (c : List Int) (R : List Row) : Int := if reachE c R then loL ((dnR c R).getD 0 0) (dnR c R).tail else 0
def reachHi (c : List Int) (R : List Row) : Int := if reachE c R then hiL ((dnR c R).getD 0 0) (dnR c R).tail else 0
def reachC (c : List Int) (R : List Row) : Int := if reachE c R then 0 else 80
theorem allV_iff {R : List Row} {d : Int} : allV R d = true ↔ ∀ j, j < R.length → isV (R.getD j row0).l d = true := by
  unfold allV
  rw [List.all_eq_true]
  constructor
  · intro h j hj; exact h _ (getD_mem hj)
  · intro h r hr
    obtain ⟨j, hj, rfl⟩ := List.mem_iff_getElem.1 hr
    have := h j hj
    rw [List.getD_eq_getElem?_getD, List.getElem?_eq_getElem hj] at this
    exact this
theorem reachE_iff {c : List Int} {R : List Row} : reachE c R = true ↔ 0 < R.length ∧ ∀ j, j < R.length → dotE c (R.getD j row0).l = true := by
  unfold reachE
  simp only [Bool.and_eq_true, decide_eq_true_eq, allV_iff, dotE_iff]
  constructor
  · rintro ⟨h1, h2, h3⟩; exact ⟨h3, fun j hj => ⟨h1, h2 j hj⟩⟩
  · rintro ⟨h1, h2⟩; exact ⟨(h2 0 h1).1, fun j hj => (h2 j hj).2, h1⟩
theorem reachE_no {c : List Int} {R : List Row} {k : Nat} (hk : k < R.length) (h : dotE c (R.getD k row0).l = false) : reachE c R = false := by
  rw [Bool.eq_false_iff]; intro g
  rw [(reachE_iff.1 g).2 k hk] at h; cases h
/-- the least so far, as one by one tells it -/
def loS (D : List Int) : Nat → Int
  | 0 => 0
  | k + 1 => if k = 0 ∨ D.getD k 0 < loS D k then D.getD k 0 else loS D k
def hiS (D : List Int) : Nat → Int
  | 0 => 0
  | k + 1 => if k = 0 ∨ hiS D k < D.getD k 0 then D.getD k 0 else hiS D k
theorem if_or0 {k : Nat} (h : ¬ k = 0) (p : Prop) [Decidable p] (x y : Int) : (if k = 0 ∨ p then x else y) = if p then x else y := by
  by_cases g : p
  · rw [if_pos (.inr g), if_pos g]
  · rw [if_neg (fun hh => hh.elim h g), if_neg g]
theorem tail_take {D : List Int} {k : Nat} (hk : k + 1 < D.length) : (D.take (k + 2)).tail = (D.take (k + 1)).tail ++ [D.getD (k + 1) 0] := by
  rw [take_get D hk]
  cases D with
  | nil => simp at hk
  | cons x D => simp
theorem loS_eq (D : List Int) : ∀ k, k < D.length → loS D (k + 1) = loL (D.getD 0 0) (D.take (k + 1)).tail
  | 0, h => by
    simp only [loS]
    cases D with
    | nil => simp at h
    | cons x D => simp [loL]
  | k + 1, h => by
    have ih := loS_eq D k (by omega)
    rw [tail_take h, loL_snoc, ← ih]
    rw [show loS D (k + 1 + 1) = if k + 1 = 0 ∨ D.getD (k + 1) 0 < loS D (k + 1) then D.getD (k + 1) 0 else loS D (k + 1) from rfl]
    split <;> omega
theorem hiS_eq (D : List Int) : ∀ k, k < D.length → hiS D (k + 1) = hiL (D.getD 0 0) (D.take (k + 1)).tail
  | 0, h => by
    simp only [hiS]
    cases D with
    | nil => simp at h
    | cons x D => simp [hiL]
  | k + 1, h => by
    have ih := hiS_eq D k (by omega)
    rw [tail_take h, hiL_snoc, ← ih]
    rw [show hiS D (k + 1 + 1) = if k + 1 = 0 ∨ hiS D (k + 1) < D.getD (k + 1) 0 then D.getD (k + 1) 0 else hiS D (k + 1) from rfl]
    split <;> omega
theorem loS_end {D : List Int} (h : 0 < D.length) : loS D D.length = loL (D.getD 0 0) D.tail := by
  have := loS_eq D (D.length - 1) (by omega)
  rw [show D.length - 1 + 1 = D.length from by omega, List.take_length] at this
  exact this
theorem hiS_end {D : List Int} (h : 0 < D.length) : hiS D D.length = hiL (D.getD 0 0) D.tail := by
  have := hiS_eq D (D.length - 1) (by omega)
  rw [show D.length - 1 + 1 = D.length from by omega, List.take_length] at this
  exact this
end Go.Proofs.Ytaeodkpkgbjaeaa
/-! Package vec: extremes of rows, Reach, Near; the reference's Near. -/
namespace Go.Proofs.Ytaeodkpkgbjaeaa
open Go.RowKit
set_option linter.unusedVariables false
set_option linter.unusedSimpArgs false

theorem below_of_alloc2 {w w' : World} {o : Obj} (h : Below w.heap.size (w.alloc o) w') : Below w.heap.size w w' := ((Below.refl _ _).alloc (Nat.le_refl _) o).trans h
theorem chkV_iff {R : List Row} {d : Int} : chkV R d = 0 ↔ 0 < R.length ∧ allV R d = true := by
  unfold chkV
  by_cases h0 : R.length = 0
  · rw [if_pos h0]; simp; omega
  · rw [if_neg h0]
    cases allV R d <;> simp <;> omega
theorem chkV_or (R : List Row) (d : Int) : chkV R d = 0 ∨ chkV R d = 80 := by
  unfold chkV
  split
  · right; rfl
  · split
    · left; rfl
    · right; rfl
end Go.Proofs.Ytaeodkpkgbjaeaa
/-! Near: the reference's and package vec's. -/
namespace Go.Proofs.Ytaeodkpkgbjaeaa
open Go.RowKit
set_option linter.unusedVariables false
set_option linter.unusedSimpArgs false

def nearE (R : List Row) (x : List Int) : Bool := isV x x.length && (allV R x.length && decide (0 < R.length))
def gapR (R : List Row) (x : List Int) (k : Nat) : Int := gapNN (R.getD k row0).l x
def nearAt (R : List Row) (x : List Int) : Int := if nearE R x then (nearG (gapR R x) R.length).1 else 0
def nearFar (R : List Row) (x : List Int) : Int := if nearE R x then (nearG (gapR R x) R.length).2 else 0
def nearC (R : List Row) (x : List Int) : Int := if nearE R x then 0 else 80
theorem gapE_iff2 {a b : List Int} : gapE a b = true ↔ isV b b.length = true ∧ isV a b.length = true := by
  unfold gapE; rw [Bool.and_eq_true]; exact And.comm
theorem nearE_iff {R : List Row} {x : List Int} : nearE R x = true ↔ 0 < R.length ∧ ∀ j, j < R.length → gapE (R.getD j row0).l x = true := by
  unfold nearE
  simp only [Bool.and_eq_true, decide_eq_true_eq, allV_iff, gapE_iff2]
  constructor
  · rintro ⟨h1, h2, h3⟩; exact ⟨h3, fun j hj => ⟨h1, h2 j hj⟩⟩
  · rintro ⟨h1, h2⟩; exact ⟨(h2 0 h1).1, fun j hj => (h2 j hj).2, h1⟩
theorem nearE_no {R : List Row} {x : List Int} {k : Nat} (hk : k < R.length) (h : gapE (R.getD k row0).l x = false) : nearE R x = false := by
  rw [Bool.eq_false_iff]; intro g
  rw [(nearE_iff.1 g).2 k hk] at h; cases h
/-- which is nearest so far, as the reference goes; -1 ahead of all -/
def nrS (g : Nat → Int) : Nat → Int × Int
  | 0 => (-1, 0)
  | k + 1 => if k = 0 ∨ g k < (nrS g k).2 then ((k : Int), g k) else nrS g k
theorem nrS_eq (g : Nat → Int) : ∀ k, nrS g (k + 1) = (((nearG g (k + 1)).1 : Int), (nearG g (k + 1)).2)
  | 0 => by
    rw [nearG_one]
    simp [nrS]
  | k + 1 => by
    have ih := nrS_eq g k
    rw [show nrS g (k + 1 + 1) = if k + 1 = 0 ∨ g (k + 1) < (nrS g (k + 1)).2 then (((k + 1 : Nat) : Int), g (k + 1)) else nrS g (k + 1) from rfl,
      show nearG g (k + 1 + 1) = if g (k + 1) < (nearG g (k + 1)).2 then (k + 1, g (k + 1)) else nearG g (k + 1) from rfl, ih]
    by_cases h : g (k + 1) < (nearG g (k + 1)).2
    · rw [if_pos (.inr h), if_pos h]
    · rw [if_neg (fun hh => hh.elim (by omega) h), if_neg h]
theorem nrS_neg (g : Nat → Int) {k : Nat} (h : 0 < k) : 0 ≤ (nrS g k).1 := by
  obtain ⟨j, rfl⟩ : ∃ j, k = j + 1 := ⟨k - 1, by omega⟩
  rw [nrS_eq]; simp
theorem if_or0p {k : Nat} (h : ¬ k = 0) (p : Prop) [Decidable p] (x y : Int × Int) : (if k = 0 ∨ p then x else y) = if p then x else y := by
  by_cases g : p
  · rw [if_pos (.inr g), if_pos g]
  · rw [if_neg (fun hh => hh.elim h g), if_neg g]
end Go.Proofs.Ytaeodkpkgbjaeaa
/-! Package vec: copied, the closure of Box; rows of the call's own that are stored into. -/
namespace Go.Proofs.Ytaeodkpkgbjaeaa
open Go.RowKit
set_option linter.unusedVariables false
set_option linter.unusedSimpArgs false

/-- block g holds the numbers l at its head -/
def OwnI (w : World) (g : Nat) (l : List Int) : Prop := ∃ cs : Array Value, w.heap[g]? = some (.cells cs 3 (0, 0)) ∧ cs.toList.take l.length = litI l
theorem OwnI.lt {w : World} {g : Nat} {l : List Int} (h : OwnI w g l) : g < w.heap.size := by
  obtain ⟨cs, hh, _⟩ := h
  rcases Nat.lt_or_ge g w.heap.size with h | h
  · exact h
  · rw [Array.getElem?_eq_none h] at hh; cases hh
theorem OwnI.cell {w : World} {g : Nat} {l : List Int} (h : OwnI w g l) {k : Nat} (hk : k < l.length) : w.cell? ⟨g, k, none⟩ = some (.int .i64 (l.getD k 0)) := by
  obtain ⟨cs, hh, hx⟩ := h
  refine (cell_of_row w g k _ _ (0, 0) hh).trans ?_
  rw [← litI_get l k hk, ← hx, List.getElem?_take, if_pos hk]
  simp
theorem OwnI.free {w : World} {g : Nat} {l : List Int} (h : OwnI w g l) (k : Nat) : w.frozen? ⟨g, k, none⟩ = false := by
  obtain ⟨cs, hh, _⟩ := h
  exact Box.free (cs := cs) (t := 3) hh k
theorem OwnI.below {w w' : World} {g B : Nat} {l : List Int} (h : OwnI w g l) (hb : Below B w w') (hg : g < B) : OwnI w' g l := by
  obtain ⟨cs, hh, hx⟩ := h
  exact ⟨cs, (hb.block g hg).trans hh, hx⟩
theorem OwnI.off {w : World} {g : Nat} {l : List Int} (h : OwnI w g l) {p : Addr} (hp : p.block ≠ g) (u : Value) : OwnI (w.setCell p u) g l := by
  obtain ⟨cs, hh, hx⟩ := h
  exact ⟨cs, Box.off (t := 3) hh hp u, hx⟩
theorem OwnI.set {w : World} {g : Nat} {l : List Int} (h : OwnI w g l) {k : Nat} (hk : k < l.length) (x : Int) : OwnI (w.setCell ⟨g, k, none⟩ (.int .i64 x)) g (l.set k x) := by
  obtain ⟨cs, hh, hx⟩ := h
  refine ⟨cs.setIfInBounds k (.int .i64 x), Box.set (t := 3) hh k _, ?_⟩
  rw [List.length_set, Array.toList_setIfInBounds, List.take_set, hx]
  unfold litI
  rw [List.map_set]
theorem OwnI.drewN {w : World} {g : Nat} {l : List Int} (h : OwnI w g l) (n : Nat) : OwnI (w.drewN n) g l := h
theorem OwnI.alloc {w : World} {g : Nat} {l : List Int} (h : OwnI w g l) (o : Obj) : OwnI (w.alloc o) g l := h.below ((Below.refl _ _).alloc (Nat.le_refl _) o) h.lt
theorem OwnI.lies {w : World} {g : Nat} {l : List Int} (h : OwnI w g l) : Lies w w.heap.size (some ⟨g, 0, none⟩) l := fun _ => by
  refine ⟨⟨g, 0, none⟩, rfl, h.lt, fun j hj => ?_⟩
  have h1 : (⟨g, 0, none⟩ : Addr).add j = ⟨g, j, none⟩ := by unfold Addr.add; split <;> simp_all
  rw [h1]; exact h.cell hj
theorem own_to {w : World} {B : Nat} {v : Value} {l : List Int} (h : w.ownsRow B 3 1 v l.length (litI l)) (h0 : 0 < l.length) :
    ∃ g c, v = .slice (some ⟨g, 0, none⟩) l.length c ∧ B ≤ g ∧ l.length ≤ c ∧ OwnI w g l := by
  rcases h.2 with ⟨rfl, h1⟩ | ⟨g, cap, cur, rfl, hb, hh, hnc, hm, hsz, hx⟩
  · omega
  · exact ⟨g, cap, rfl, hb, hnc, cur, hh, by simpa using hx⟩
/-- a copy of a list, onto nothing -/
theorem app_copy {wr : World} {ops : Array Oper} {rest : List Oper} {o : Oper} {a : Act} {Q : Exit → Act → World → Prop} (hgd : o.guard = none) (s x : Operand)
    (ho : o.op = .call { callee := .builtin .append, args := #[s, x], argTypes := #[97, 97] })
    (ad0 ad : Addr) (l : List Int) (N c : Nat) (hN : l.length = N) (hs : a.eval s = .slice (some ad0) 0 0) (hx : a.eval x = .slice (some ad) N c)
    (hc : ∀ j, j < l.length → wr.cell? (ad.add j) = some (.int .i64 (l.getD j 0))) (h0 : 0 < N) (hl : N ≤ 1000)
    (h : ∀ g c' w', N ≤ c' → OwnI w' g l → wr.heap.size ≤ g → Below wr.heap.size wr w' → wpList Try.prog ops Q rest (a.put o.dst (.slice (some ⟨g, 0, none⟩) N c')) w') :
    wpList Try.prog ops Q (o :: rest) a wr := by
  subst hN
  obtain ⟨i0, hi, hz0, hz1, hz2⟩ := info_parts infoI
  refine wpList_append_grows _ hgd s x 97 ho 3 i0 (.int .i64 0) 1 8 Try.underlying97 hi hz0 hz1 hz2 rfl (by decide) (some ad0) 0 0 [] hs (fun h => by cases h) rfl (fun _ _ j u h => by simp at h) ad l.length c (litI l) hx (by rw [litI_len]; omega) ?_ ?_ (by omega) (by unfold maxLen; omega) (by omega) ?_
  · intro j u hj
    have hjl : j < l.length := by
      rcases Nat.lt_or_ge j l.length with h1 | h1
      · exact h1
      · rw [List.getElem?_eq_none (by rw [litI_len]; exact h1)] at hj; cases hj
    rw [litI_get _ _ hjl] at hj
    rw [← hj]; exact hc j hjl
  · intro u hu
    unfold litI at hu
    obtain ⟨y, _, rfl⟩ := List.mem_map.1 hu; rfl
  · intro v' w' h1 h2
    rw [Nat.zero_add, List.nil_append] at h1
    obtain ⟨g, c', rfl, hg, hc', ho'⟩ := own_to h1 h0
    exact h g c' w' hc' ho' hg ((Below.refl _ _).grown h2 (Nat.le_refl _) (fun k hk => by cases hk))
theorem len23 {vs : List Value} (h : vs.length = 23) : ∃ y0 y1 y2 y3 y4 y5 y6 y7 y8 y9 y10 y11 y12 y13 y14 y15 y16 y17 y18 y19 y20 y21 y22, vs = [y0, y1, y2, y3, y4, y5, y6, y7, y8, y9, y10, y11, y12, y13, y14, y15, y16, y17, y18, y19, y20, y21, y22] := by
  match vs, h with
  | [y0, y1, y2, y3, y4, y5, y6, y7, y8, y9, y10, y11, y12, y13, y14, y15, y16, y17, y18, y19, y20, y21, y22], _ => exact ⟨y0, y1, y2, y3, y4, y5, y6, y7, y8, y9, y10, y11, y12, y13, y14, y15, y16, y17, y18, y19, y20, y21, y22, rfl⟩
/-- the values of a region's operations, as far as they were carried out -/
def RegV (E : List (Option Value)) (f : Nat → Bool) (vs : List Value) : Prop := ∀ j u, f j = true → E[j]? = some (some u) → vs.getD j undef = u
theorem RegV.set {E : List (Option Value)} {f : Nat → Bool} {vs : List Value} (h : RegV E f vs) {i : Nat} (hi : i < vs.length) {v : Value} (hv : ∀ u, E[i]? = some (some u) → v = u) : RegV E (fun j => if j = i then true else f j) (vs.set i v) := by
  intro j u hj he
  by_cases g : j = i
  · subst g
    rw [List.getD_eq_getElem?_getD, List.getElem?_set_self hi]
    exact hv u he
  · dsimp only at hj
    rw [if_neg g] at hj
    rw [List.getD_eq_getElem?_getD, List.getElem?_set_ne (fun e => g e.symm), ← List.getD_eq_getElem?_getD]
    exact h j u hj he
/-- what is there in the middle of Box's exchange -/
def BoxJ (B : Nat) (W : World) (ga gb gx k : Nat) (lo lo' hi hi' : List Int) (E : List (Option Value)) (f : Nat → Bool) (vs : List Value) (w : World) : Prop :=
  RegV E f vs ∧ (Below B W w ∧ B ≤ w.heap.size) ∧ w.cell? ⟨gx, 0, none⟩ = some (.int .i64 k) ∧ OwnI w ga (cond (f 20) lo' lo) ∧ OwnI w gb (cond (f 22) hi' hi) ∧ (f 20 = true → f 7 = true) ∧ (f 22 = true → f 11 = true)
theorem BoxJ.alike {B : Nat} {W : World} {ga gb gx k : Nat} {lo lo' hi hi' : List Int} {E : List (Option Value)} (hE : E.length = 23) (f g : Nat → Bool) (vs : List Value) (w : World) (hfg : ∀ k, k < 23 → f k = g k) (hj : BoxJ B W ga gb gx k lo lo' hi hi' E f vs w) : BoxJ B W ga gb gx k lo lo' hi hi' E g vs w := by
  obtain ⟨h1, h2⟩ := hj
  unfold BoxJ
  rw [← hfg 20 (by omega), ← hfg 22 (by omega), ← hfg 7 (by omega), ← hfg 11 (by omega)]
  refine ⟨fun j u hj he => h1 j u ?_ he, h2⟩
  rw [hfg j]; exact hj
  rcases Nat.lt_or_ge j E.length with h | h
  · omega
  · rw [List.getElem?_eq_none h] at he; cases he
theorem BoxJ.step {B : Nat} {W : World} {ga gb gx k : Nat} {lo lo' hi hi' : List Int} {E : List (Option Value)} {f : Nat → Bool} {vs : List Value} {w : World} (hj : BoxJ B W ga gb gx k lo lo' hi hi' E f vs w) {i : Nat} (hi0 : i < vs.length) (h20 : ¬ 20 = i) (h22 : ¬ 22 = i) {v : Value} (hv : ∀ u, E[i]? = some (some u) → v = u) {w' : World} (hw : ∃ n, w' = w.drewN n) :
    BoxJ B W ga gb gx k lo lo' hi hi' E (fun j => if j = i then true else f j) (vs.set i v) w' := by
  obtain ⟨n, rfl⟩ := hw
  obtain ⟨h1, ⟨h2, h2'⟩, h3, h4, h5, h6, h7⟩ := hj
  refine ⟨h1.set hi0 hv, ⟨below_drewN2 h2 n, h2'⟩, h3, ?_, ?_, ?_, ?_⟩
  · simpa [h20] using h4.drewN n
  · simpa [h22] using h5.drewN n
  · simp only [h20, if_false]
    intro h
    rw [h6 h]; simp
  · simp only [h22, if_false]
    intro h
    rw [h7 h]; simp
theorem BoxJ.store1 {B : Nat} {W : World} {ga gb gx k : Nat} {lo hi hi' : List Int} {x : Int} {E : List (Option Value)} {f : Nat → Bool} {vs : List Value} {w : World} (hj : BoxJ B W ga gb gx k lo (lo.set k x) hi hi' E f vs w) (hi0 : 20 < vs.length) (hf : f 20 = false) (h7 : f 7 = true) {v : Value} (hv : ∀ u, E[20]? = some (some u) → v = u) (hk : k < lo.length) (hab : ga ≠ gb) (hax : ga ≠ gx) (hB : B ≤ ga) :
    BoxJ B W ga gb gx k lo (lo.set k x) hi hi' E (fun j => if j = 20 then true else f j) (vs.set 20 v) (w.setCell ⟨ga, k, none⟩ (.int .i64 x)) := by
  obtain ⟨h1, ⟨h2, h2'⟩, h3, h4, h5, h6, h8⟩ := hj
  rw [hf] at h4
  refine ⟨h1.set hi0 hv, ⟨h2.setCell (p := ⟨ga, k, none⟩) hB _, by simpa using h2'⟩, ?_, ?_, ?_, ?_, ?_⟩
  · rw [World.cell?_setCell_other w ⟨ga, k, none⟩ ⟨gx, 0, none⟩ _ (fun e => hax (congrArg Addr.block e))]; exact h3
  · simpa using h4.set hk x
  · simpa using h5.off (p := ⟨ga, k, none⟩) hab _
  · intro _; simpa using h7
  · simpa using h8
theorem BoxJ.store2 {B : Nat} {W : World} {ga gb gx k : Nat} {lo lo' hi : List Int} {x : Int} {E : List (Option Value)} {f : Nat → Bool} {vs : List Value} {w : World} (hj : BoxJ B W ga gb gx k lo lo' hi (hi.set k x) E f vs w) (hi0 : 22 < vs.length) (hf : f 22 = false) (h7 : f 11 = true) {v : Value} (hv : ∀ u, E[22]? = some (some u) → v = u) (hk : k < hi.length) (hab : gb ≠ ga) (hax : gb ≠ gx) (hB : B ≤ gb) :
    BoxJ B W ga gb gx k lo lo' hi (hi.set k x) E (fun j => if j = 22 then true else f j) (vs.set 22 v) (w.setCell ⟨gb, k, none⟩ (.int .i64 x)) := by
  obtain ⟨h1, ⟨h2, h2'⟩, h3, h4, h5, h6, h8⟩ := hj
  rw [hf] at h5
  refine ⟨h1.set hi0 hv, ⟨h2.setCell (p := ⟨gb, k, none⟩) hB _, by simpa using h2'⟩, ?_, ?_, ?_, ?_, ?_⟩
  · rw [World.cell?_setCell_other w ⟨gb, k, none⟩ ⟨gx, 0, none⟩ _ (fun e => hax (congrArg Addr.block e))]; exact h3
  · simpa using h4.off (p := ⟨gb, k, none⟩) hab _
  · simpa using h5.set hk x
  · simpa using h6
  · intro _; simpa using h7
end Go.Proofs.Ytaeodkpkgbjaeaa
/-! Package vec: Box. -/
namespace Go.Proofs.Ytaeodkpkgbjaeaa
open Go.RowKit
set_option linter.unusedVariables false
set_option linter.unusedSimpArgs false

def colL (R : List Row) (j : Nat) : Int := loL ((R.getD 0 row0).l.getD j 0) (R.tail.map fun r => r.l.getD j 0)
def colH (R : List Row) (j : Nat) : Int := hiL ((R.getD 0 row0).l.getD j 0) (R.tail.map fun r => r.l.getD j 0)
def boxE (R : List Row) (d : Int) : Bool := allV R d && decide (0 < R.length)
def boxLo (R : List Row) (d : Int) : List Int := if boxE R d then (List.range d.toNat).map (colL R) else []
def boxHi (R : List Row) (d : Int) : List Int := if boxE R d then (List.range d.toNat).map (colH R) else []
def boxC (R : List Row) (d : Int) : Int := if boxE R d then 0 else 80
/-- the first k columns are as they shall be, the others still the first row's -/
def mixI (F G : Nat → Int) (D k : Nat) : List Int := (List.range D).map fun j => if j < k then F j else G j
theorem mixI_len (F G : Nat → Int) (D k : Nat) : (mixI F G D k).length = D := by simp [mixI]
theorem mixI_get {F G : Nat → Int} {D k : Nat} (h : k < D) : (mixI F G D k).getD k 0 = G k := by
  unfold mixI
  rw [List.getD_eq_getElem?_getD, List.getElem?_map, List.getElem?_range h]
  simp
theorem mixI_set {F G : Nat → Int} {D k : Nat} (h : k < D) : (mixI F G D k).set k (F k) = mixI F G D (k + 1) := by
  refine List.ext_getElem (by simp [mixI]) fun j h1 h2 => ?_
  rw [List.getElem_set]
  simp only [mixI, List.getElem_map, List.getElem_range]
  by_cases g : k = j
  · subst g; simp
  · rw [if_neg g]
    by_cases g2 : j < k
    · rw [if_pos g2, if_pos (by omega)]
    · rw [if_neg g2, if_neg (by omega)]
theorem mixI_end (F G : Nat → Int) (D : Nat) : mixI F G D D = (List.range D).map F := by
  unfold mixI
  refine List.map_congr_left fun j hj => ?_
  rw [if_pos (List.mem_range.1 hj)]
theorem mixI_zero (F : Nat → Int) (l : List Int) : mixI F (fun j => l.getD j 0) l.length 0 = l := by
  refine List.ext_getElem (by simp [mixI]) fun j h1 h2 => ?_
  simp only [mixI, List.getElem_map, List.getElem_range]
  rw [if_neg (by omega), List.getD_eq_getElem?_getD, List.getElem?_eq_getElem h2]; rfl
/-- two rows of numbers, each of the call's own -/
def GivesBox (R : List Row) (d : Int) (w : World) (e : Ending) (w' : World) : Prop :=
  ∃ A c A2 c2, e = .returned (.tuple #[.slice A (boxLo R d).length c, .slice A2 (boxHi R d).length c2, .int .i64 (boxC R d)]) ∧ (boxLo R d).length ≤ c ∧ (boxHi R d).length ≤ c2 ∧ Lies w' w'.heap.size A (boxLo R d) ∧ Lies w' w'.heap.size A2 (boxHi R d) ∧ Below w.heap.size w w'

/-- what was copied so far, in blocks of the call's own -/
def Cop (B : Nat) (W : World) (l : List Int) (gs : List Nat) (w : World) : Prop := Below B W w ∧ B ≤ w.heap.size ∧ gs.Nodup ∧ ∀ g ∈ gs, B ≤ g ∧ OwnI w g l
theorem Cop.push {B : Nat} {W w w' : World} {l : List Int} {gs : List Nat} (h : Cop B W l gs w) {g : Nat} (hg : w.heap.size ≤ g) (ho : OwnI w' g l) (hb : Below w.heap.size w w') : Cop B W l (g :: gs) w' := by
  obtain ⟨h1, h2, h3, h4⟩ := h
  refine ⟨h1.trans (hb.mono h2), Nat.le_trans h2 hb.size, List.nodup_cons.2 ⟨fun hm => ?_, h3⟩, fun x hx => ?_⟩
  · have := (h4 g hm).2.lt; omega
  · rcases List.mem_cons.1 hx with rfl | hx
    · exact ⟨by omega, ho⟩
    · exact ⟨(h4 x hx).1, (h4 x hx).2.below hb (h4 x hx).2.lt⟩
theorem Cop.b {B : Nat} {W w : World} {l : List Int} {gs : List Nat} (h : Cop B W l gs w) : Below B W w := h.1
theorem Cop.drew {B : Nat} {W w : World} {l : List Int} {gs : List Nat} (h : Cop B W l gs w) : Cop B W l gs w.drew := ⟨h.1.drew, h.2.1, h.2.2⟩

end Go.Proofs.Ytaeodkpkgbjaeaa
/-! The reference of layer 8: Box. -/
namespace Go.Proofs.Ytaeodkpkgbjaeaa
open Go.RowKit
set_option linter.unusedVariables false
set_option linter.unusedSimpArgs false

/-- two lists of the call's own, each in its own block -/
def Two (B : Nat) (w : World) (v1 : Value) (l1 : List Int) (v2 : Value) (l2 : List Int) : Prop :=
  w.ownsRow B 3 1 v1 l1.length (litI l1) ∧ w.ownsRow B 3 1 v2 l2.length (litI l2) ∧ (v1.ownBlock = none ∨ v1.ownBlock ≠ v2.ownBlock)
theorem Two.a {B : Nat} {w : World} {v1 v2 : Value} {l1 l2 : List Int} (h : Two B w v1 l1 v2 l2) : w.ownsRow B 3 1 v1 l1.length (litI l1) := h.1
theorem Two.b {B : Nat} {w : World} {v1 v2 : Value} {l1 l2 : List Int} (h : Two B w v1 l1 v2 l2) : w.ownsRow B 3 1 v2 l2.length (litI l2) := h.2.1
theorem Two.c {B : Nat} {w : World} {v1 v2 : Value} {l1 l2 : List Int} (h : Two B w v1 l1 v2 l2) : v1.ownBlock = none ∨ v1.ownBlock ≠ v2.ownBlock := h.2.2
theorem Two.drewN {B : Nat} {w : World} {v1 v2 : Value} {l1 l2 : List Int} (h : Two B w v1 l1 v2 l2) (n : Nat) : Two B (w.drewN n) v1 l1 v2 l2 := ⟨ownI_drewN h.1 n, ownI_drewN h.2.1 n, h.2.2⟩
theorem own_ltI {w : World} {B : Nat} {v : Value} {n : Nat} {xs : List Value} (h : w.ownsRow B 3 1 v n xs) {k : Nat} (hk : v.ownBlock = some k) : k < w.heap.size := by
  rcases h.2 with ⟨rfl, _⟩ | ⟨g, cap, cur, rfl, _, hh, _⟩
  · simp [Value.ownBlock] at hk
  · simp only [Value.ownBlock, Option.some.injEq] at hk
    subst hk
    exact (Array.getElem?_eq_some_iff.1 hh).1
/-- one number more onto a list of the call's own, beside another one -/
theorem app_int_at {B : Nat} {wr : World} {ops : Array Oper} {rest : List Oper} {o : Oper} {a : Act} {Q : Exit → Act → World → Prop} (hgd : o.guard = none) (s x : Operand)
    (ho : o.op = .call { callee := .builtin .append, args := #[s, x], argTypes := #[97, 97] })
    (v : Value) (l : List Int) (d : Int) (u : Value) (m : List Int) (hs : a.eval s = v) (hown : wr.ownsRow B 3 1 v l.length (litI l)) (hown2 : wr.ownsRow B 3 1 u m.length (litI m)) (hne : v.ownBlock = none ∨ v.ownBlock ≠ u.ownBlock) (hx : a.eval x = .slice (some ⟨wr.heap.size, 0, none⟩) 1 1)
    (hB : B ≤ wr.heap.size) (hn : l.length + 1 ≤ 1000000000)
    (h : ∀ v' w', Two B w' v' (l ++ [d]) u m → Below B wr w' → wpList Try.prog ops Q rest (a.put o.dst v') w') :
    wpList Try.prog ops Q (o :: rest) a (wr.alloc (.cells #[.int .i64 d] 3)) := by
  obtain ⟨i0, hi, hz0, hz1, hz2⟩ := info_parts infoI
  refine wpList_append_own_at _ hgd s x 97 ho B 3 i0 (.int .i64 0) 1 8 Try.underlying97 hi hz0 hz1 hz2 rfl (by decide) v l.length (litI l) hs (hown.alloc _) ⟨wr.heap.size, 0, none⟩ 1 1 [.int .i64 d] hx rfl (cell_one_new _ _ _) ?_ ?_ ?_ ?_ ?_
  · intro u hu; rw [List.mem_singleton.1 hu]; rfl
  · unfold maxLen; omega
  · omega
  · simp; omega
  · intro v' w' h1 h2 _ h4
    have hub : ∀ k, u.ownBlock = some k → k < wr.heap.size := fun k hk => own_ltI hown2 hk
    refine h v' w' ⟨?_, ?_, ?_⟩ ?_
    · rw [List.length_append, ← litI_snoc]; exact h1
    · refine (hown2.alloc (.cells #[.int .i64 d] 3)).kept h2 ?_
      rcases hown2.2 with ⟨rfl, _⟩ | ⟨g, cap, cur, rfl, _⟩
      · exact .inl rfl
      · right
        rcases hne with e | e
        · rw [e]; simp [Value.ownBlock]
        · exact fun e2 => e e2.symm
    · rcases h4 with e | e
      · rw [e]; exact hne
      · right
        rw [e]
        intro e2
        have := hub _ e2.symm
        simp at this
        omega
    · refine ((Below.refl _ _).alloc hB _).grown h2 (by simp; omega) fun k hk => ?_
      rcases hown.2 with ⟨rfl, _⟩ | ⟨g, cap, cur, rfl, hg, _⟩
      · simp [Value.ownBlock] at hk
      · simp only [Value.ownBlock, Option.some.injEq] at hk; omega
theorem Two.swap {B : Nat} {w : World} {v1 v2 : Value} {l1 l2 : List Int} (h : Two B w v1 l1 v2 l2) : Two B w v2 l2 v1 l1 := by
  refine ⟨h.2.1, h.1, ?_⟩
  rcases h.2.2 with e | e
  · by_cases g : v2.ownBlock = none
    · exact .inl g
    · right; rw [e]; exact g
  · right; exact fun e2 => e e2.symm
def colR (R : List Row) (j : Nat) : List Int := R.map fun r => r.l.getD j 0
theorem colR_get (R : List Row) (j : Nat) {i : Nat} (hi : i < R.length) : (colR R j).getD i 0 = (R.getD i row0).l.getD j 0 := by
  unfold colR
  rw [List.getD_eq_getElem?_getD, List.getElem?_map, List.getElem?_eq_getElem hi]
  simp [List.getD, hi]
theorem colL_all {R : List Row} (h : 0 < R.length) (j : Nat) : loL ((R.getD 0 row0).l.getD j 0) (colR R j) = colL R j := by
  cases R with
  | nil => simp at h
  | cons r R => unfold colL colR loL; simp
theorem colH_all {R : List Row} (h : 0 < R.length) (j : Nat) : hiL ((R.getD 0 row0).l.getD j 0) (colR R j) = colH R j := by
  cases R with
  | nil => simp at h
  | cons r R => unfold colH colR hiL; simp
theorem range_snoc (F : Nat → Int) (k : Nat) : (List.range k).map F ++ [F k] = (List.range (k + 1)).map F := by rw [List.range_succ, List.map_append]; rfl
end Go.Proofs.Ytaeodkpkgbjaeaa
/-! How lists and rows among the arguments of a law are opened. -/
namespace Go.Proofs.Ytaeodkpkgbjaeaa
open Go.RowKit Go.WideShapes Go.ChangeShapes Go.Joins Go.Deep
theorem below_qd {w0 w w' : World} (c : Below w0.heap.size w0 w) (h : ∃ n, w' = w.drewN n) : Below w0.heap.size w0 w' := by
  obtain ⟨n, rfl⟩ := h; exact ⟨c.os, c.tape, c.output, c.size, c.block⟩
theorem below_tr {w0 w w' : World} (c : Below w0.heap.size w0 w) (h : Below w.heap.size w w') : Below w0.heap.size w0 w' := c.trans (h.mono c.size)
section
variable {H : Type} {enc : TypeId × Value → H}
theorem cells_i8 : Try.prog.cellsOf 3 = 1 := by kernel_rfl
theorem cells_l8 : Try.prog.cellsOf 97 = 1 := by kernel_rfl
theorem open_ints8 {P : Program} {W : World} {base : Nat} {t e : TypeId} {v : Value} {d : DataW H} {p : List MemPlace} (ht : P.underlying t = some (.slice e)) (he : P.underlying e = some (.int .i64)) (hc : P.cellsOf e = 1)
    (hv : Value.okWide P W .any base t v) (h : DataW.Trod enc P W 0 (fun _ => true) true t v d p) :
    ∃ A l c, v = .slice A l.length c ∧ Lies W W.heap.size A l ∧ (∀ x ∈ l, I64 x) ∧ l.length ≤ c ∧ c ≤ 9223372036854775807 := by
  obtain ⟨a0, len, cap, rfl⟩ := okWide_slice ht hv
  obtain ⟨fuel, hf⟩ := h
  rcases open_ints ht he hc hf with ⟨hcs, _⟩ | ⟨a, len', cap', zs, hcs, _, hle, hm, hz, _, hcell, hwz⟩
  · simp [Value.cells] at hcs
    obtain ⟨rfl, rfl, rfl⟩ := hcs
    exact ⟨none, [], 0, rfl, Lies.nil, (fun x hx => by cases hx), by simp, by simp⟩
  · simp [Value.cells] at hcs
    obtain ⟨rfl, rfl, rfl⟩ := hcs
    simp only [if_true] at hz
    unfold maxLen at hm
    have hlen : (zs.take len).length = len := by rw [List.length_take]; omega
    refine ⟨some a, zs.take len, cap, by rw [hlen], fun h0 => ⟨a, rfl, ?_, fun j hj => ?_⟩, fun x hx => i64_of_wf (hwz x (List.mem_of_mem_take hx)), by omega, by omega⟩
    · have h1 := hcell 0 (by omega)
      have h2 := World.block_lt_of_cell? W (a.add 0) h1
      rw [add_block] at h2
      exact h2
    · rw [hlen] at hj
      rw [hcell j (by omega), List.getD_eq_getElem?_getD, List.getD_eq_getElem?_getD, List.getElem?_take, if_pos hj]
theorem open_rows8 {P : Program} {W : World} {base : Nat} {t e q : TypeId} {v : Value} {d : DataW H} {p : List MemPlace} (ht : P.underlying t = some (.slice e)) (he : P.underlying e = some (.slice q)) (hq : P.underlying q = some (.int .i64)) (hc : P.cellsOf e = 1) (hc2 : P.cellsOf q = 1)
    (hv : Value.okWide P W .any base t v) (h : DataW.Trod enc P W 0 (fun _ => true) true t v d p) :
    ∃ A R c, v = .slice A R.length c ∧ LiesR W W.heap.size A R ∧ OkR R ∧ R.length ≤ c ∧ c ≤ 9223372036854775807 := by
  obtain ⟨a0, len, cap, rfl⟩ := okWide_slice ht hv
  obtain ⟨fuel, hf⟩ := h
  rcases open_int_rows ht he hq hc hc2 hf with ⟨hcs, _⟩ | ⟨a, len', cap', A, L, C, Z, hcs, _, hle, hm, _, hrows⟩
  · simp [Value.cells] at hcs
    obtain ⟨rfl, rfl, rfl⟩ := hcs
    exact ⟨none, [], 0, rfl, LiesR.nil, (fun x hx => by cases hx), by simp, by simp⟩
  · simp [Value.cells] at hcs
    obtain ⟨rfl, rfl, rfl⟩ := hcs
    unfold maxLen at hm hrows
    have hg : ∀ j, j < len → ((List.range len).map fun r => (⟨A r, (Z r).take (L r), C r⟩ : Row)).getD j row0 = ⟨A j, (Z j).take (L j), C j⟩ := fun j hj => by
      rw [List.getD_eq_getElem?_getD, List.getElem?_map, List.getElem?_range hj]; rfl
    have hlr : ∀ j, j < len → ((Z j).take (L j)).length = L j := fun j hj => by
      obtain ⟨_, h2, _, h4, _⟩ := hrows j (by omega)
      rw [List.length_take]; omega
    refine ⟨some a, (List.range len).map fun r => ⟨A r, (Z r).take (L r), C r⟩, cap, by simp, ⟨fun h0 => ⟨a, rfl, ?_, fun j hj => ?_⟩, fun r hr => ?_⟩, fun r hr => ?_, by simpa using hle, by omega⟩
    · simp at h0
      have h1 := (hrows 0 (by omega)).1
      have h2 := World.block_lt_of_cell? W (a.add 0) h1
      rw [add_block] at h2
      exact h2
    · have hj' : j < len := by simpa using hj
      rw [hg j hj', (hrows j (by omega)).1]
      unfold rowV
      simp only
      rw [hlr j hj']
    · simp only [List.mem_map, List.mem_range] at hr
      obtain ⟨j, hj, rfl⟩ := hr
      obtain ⟨_, h2, _, h4, _, h6, h7⟩ := hrows j (by omega)
      intro h0
      simp only at h0
      rw [hlr j hj] at h0
      cases hA : A j with
      | none => rw [h6 hA] at h2; omega
      | some a' =>
        obtain ⟨_, hcell⟩ := h7 a' hA
        refine ⟨a', rfl, ?_, fun k hk => ?_⟩
        · have h1 := hcell 0 (by omega)
          have h3 := World.block_lt_of_cell? W (a'.add 0) h1
          rw [add_block] at h3
          exact h3
        · simp only at hk ⊢
          rw [hlr j hj] at hk
          rw [hcell k (by omega), List.getD_eq_getElem?_getD, List.getD_eq_getElem?_getD, List.getElem?_take, if_pos hk]
    · simp only [List.mem_map, List.mem_range] at hr
      obtain ⟨j, hj, rfl⟩ := hr
      obtain ⟨_, h2, h3, h4, h5, _⟩ := hrows j (by omega)
      refine ⟨by simp only; rw [hlr j hj]; exact h2, by simp only; omega, fun x hx => i64_of_wf (h5 x (List.mem_of_mem_take hx))⟩
end
end Go.Proofs.Ytaeodkpkgbjaeaa
