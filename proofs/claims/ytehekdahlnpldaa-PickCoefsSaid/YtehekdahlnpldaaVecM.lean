import Derived.Test.YtehekdahlnpldaaBase

/-! Lists of numbers as vectors: extremes, products, gaps; rows in memory. -/
namespace Go.Proofs.Ytehekdahlnpldaa
open Go.RowKit
set_option linter.unusedVariables false
set_option linter.unusedSimpArgs false

def loL (a : Int) (l : List Int) : Int := l.foldl min a
def hiL (a : Int) (l : List Int) : Int := l.foldl max a
theorem le_loL (m : Int) : ∀ (l : List Int) (a : Int), m ≤ loL a l ↔ m ≤ a ∧ ∀ x ∈ l, m ≤ x
  | [], a => by simp [loL]
  | y :: l, a => by
    have h := le_loL m l (min a y)
    unfold loL at h ⊢
    rw [List.foldl_cons, h]
    simp only [List.forall_mem_cons]
    constructor
    · rintro ⟨h1, h2⟩; exact ⟨by omega, by omega, h2⟩
    · rintro ⟨h1, h2, h3⟩; exact ⟨by omega, h3⟩
theorem hiL_le (m : Int) : ∀ (l : List Int) (a : Int), hiL a l ≤ m ↔ a ≤ m ∧ ∀ x ∈ l, x ≤ m
  | [], a => by simp [hiL]
  | y :: l, a => by
    have h := hiL_le m l (max a y)
    unfold hiL at h ⊢
    rw [List.foldl_cons, h]
    simp only [List.forall_mem_cons]
    constructor
    · rintro ⟨h1, h2⟩; exact ⟨by omega, by omega, h2⟩
    · rintro ⟨h1, h2, h3⟩; exact ⟨by omega, h3⟩
theorem loL_snoc (a : Int) (l : List Int) (x : Int) : loL a (l ++ [x]) = min (loL a l) x := by simp [loL]
theorem hiL_snoc (a : Int) (l : List Int) (x : Int) : hiL a (l ++ [x]) = max (hiL a l) x := by simp [hiL]
theorem take_get (l : List Int) {k : Nat} (h : k < l.length) : l.take (k + 1) = l.take k ++ [l.getD k 0] := by
  rw [List.take_succ_eq_append_getElem h]
  simp [List.getD, h]
theorem loL_take (a : Int) (l : List Int) {k : Nat} (h : k < l.length) : loL a (l.take (k + 1)) = min (loL a (l.take k)) (l.getD k 0) := by rw [take_get l h, loL_snoc]
theorem hiL_take (a : Int) (l : List Int) {k : Nat} (h : k < l.length) : hiL a (l.take (k + 1)) = max (hiL a (l.take k)) (l.getD k 0) := by rw [take_get l h, hiL_snoc]
theorem loL_mem : ∀ (l : List Int) (a : Int), loL a l = a ∨ loL a l ∈ l
  | [], a => .inl rfl
  | y :: l, a => by
    have h := loL_mem l (min a y)
    unfold loL at h ⊢
    rw [List.foldl_cons]
    rcases h with h | h
    · rcases Int.le_total a y with g | g
      · left; rw [h]; omega
      · right; rw [h, show min a y = y from by omega]; simp
    · right; exact List.mem_cons_of_mem _ h
theorem hiL_mem : ∀ (l : List Int) (a : Int), hiL a l = a ∨ hiL a l ∈ l
  | [], a => .inl rfl
  | y :: l, a => by
    have h := hiL_mem l (max a y)
    unfold hiL at h ⊢
    rw [List.foldl_cons]
    rcases h with h | h
    · rcases Int.le_total a y with g | g
      · right; rw [h, show max a y = y from by omega]; simp
      · left; rw [h]; omega
    · right; exact List.mem_cons_of_mem _ h

/-- within the bounds of a vector's numbers -/
def okN (x : Int) : Prop := -2147483648 ≤ x ∧ x ≤ 2147483647
def isV (v : List Int) (d : Int) : Bool := decide (1 ≤ d ∧ d ≤ 8 ∧ (v.length : Int) = d ∧ ∀ x ∈ v, -2147483648 ≤ x ∧ x ≤ 2147483647)
def partsV (c : List Int) (d : Int) : Bool := decide (1 ≤ d ∧ d ≤ 8 ∧ (c.length : Int) = d ∧ (∀ x ∈ c, -4 ≤ x ∧ x ≤ 4) ∧ ∃ x ∈ c, x ≠ 0)
theorem isV_iff {v : List Int} {d : Int} : isV v d = true ↔ 1 ≤ d ∧ d ≤ 8 ∧ (v.length : Int) = d ∧ ∀ x ∈ v, -2147483648 ≤ x ∧ x ≤ 2147483647 := by unfold isV; exact decide_eq_true_iff
theorem partsV_iff {v : List Int} {d : Int} : partsV v d = true ↔ 1 ≤ d ∧ d ≤ 8 ∧ (v.length : Int) = d ∧ (∀ x ∈ v, -4 ≤ x ∧ x ≤ 4) ∧ ∃ x ∈ v, x ≠ 0 := by unfold partsV; exact decide_eq_true_iff
/-- what 'ends' tells of a row that is as long as it should be -/
def endsK (l : List Int) (d : Int) : Bool := decide (1 ≤ d ∧ d ≤ 8 ∧ (l.length : Int) = d)
def endsL (l : List Int) (d : Int) : Int := if endsK l d then loL (l.getD 0 0) l.tail else 0
def endsH (l : List Int) (d : Int) : Int := if endsK l d then hiL (l.getD 0 0) l.tail else 0
theorem endsK_iff {l : List Int} {d : Int} : endsK l d = true ↔ 1 ≤ d ∧ d ≤ 8 ∧ (l.length : Int) = d := by unfold endsK; exact decide_eq_true_iff
theorem ends_cons {l : List Int} {d : Int} (h : endsK l d = true) : ∃ a r, l = a :: r ∧ endsL l d = loL a r ∧ endsH l d = hiL a r := by
  have h2 := endsK_iff.1 h
  cases l with
  | nil => simp at h2; omega
  | cons a r => exact ⟨a, r, rfl, by unfold endsL; rw [if_pos h]; rfl, by unfold endsH; rw [if_pos h]; rfl⟩
theorem isV_ends (l : List Int) (d : Int) : isV l d = (endsK l d && (decide (-2147483648 ≤ endsL l d) && decide (endsH l d ≤ 2147483647))) := by
  rw [Bool.eq_iff_iff, isV_iff]
  by_cases h : endsK l d = true
  · obtain ⟨a, r, rfl, e1, e2⟩ := ends_cons h
    have h3 := endsK_iff.1 h
    simp only [h, Bool.true_and, Bool.and_eq_true, decide_eq_true_eq, e1, e2, le_loL, hiL_le, List.forall_mem_cons]
    constructor
    · rintro ⟨_, _, _, ⟨h4, h5⟩, h6⟩; exact ⟨⟨h4, fun x hx => (h6 x hx).1⟩, h5, fun x hx => (h6 x hx).2⟩
    · rintro ⟨⟨h4, h5⟩, h6, h7⟩; exact ⟨h3.1, h3.2.1, h3.2.2, ⟨h4, h6⟩, fun x hx => ⟨h5 x hx, h7 x hx⟩⟩
  · rw [Bool.not_eq_true] at h
    simp only [h, Bool.false_and, Bool.false_eq_true, iff_false]
    rintro ⟨h1, h2, h3, _⟩
    rw [endsK_iff.2 ⟨h1, h2, h3⟩] at h; cases h
theorem partsV_ends (l : List Int) (d : Int) : partsV l d = (endsK l d && (decide (-4 ≤ endsL l d) && (decide (endsH l d ≤ 4) && (decide (endsL l d < 0) || decide (0 < endsH l d))))) := by
  rw [Bool.eq_iff_iff, partsV_iff]
  by_cases h : endsK l d = true
  · obtain ⟨a, r, rfl, e1, e2⟩ := ends_cons h
    have h3 := endsK_iff.1 h
    simp only [h, Bool.true_and, Bool.and_eq_true, Bool.or_eq_true, decide_eq_true_eq, e1, e2, le_loL, hiL_le, List.forall_mem_cons]
    have hlo : loL a r < 0 ↔ ¬ (0 ≤ a ∧ ∀ x ∈ r, 0 ≤ x) := by rw [← le_loL]; omega
    have hhi : 0 < hiL a r ↔ ¬ (a ≤ 0 ∧ ∀ x ∈ r, x ≤ 0) := by rw [← hiL_le]; omega
    rw [hlo, hhi]
    constructor
    · rintro ⟨_, _, _, ⟨h4, h6⟩, y, hy, hy0⟩
      refine ⟨⟨h4.1, fun x hx => (h6 x hx).1⟩, ⟨h4.2, fun x hx => (h6 x hx).2⟩, ?_⟩
      rcases List.mem_cons.1 hy with rfl | hy
      · rcases Int.lt_or_gt_of_ne hy0 with g | g
        · left; rintro ⟨g1, _⟩; omega
        · right; rintro ⟨g1, _⟩; omega
      · rcases Int.lt_or_gt_of_ne hy0 with g | g
        · left; rintro ⟨_, g1⟩; have := g1 y hy; omega
        · right; rintro ⟨_, g1⟩; have := g1 y hy; omega
    · rintro ⟨⟨h4, h5⟩, ⟨h6, h7⟩, h8⟩
      refine ⟨h3.1, h3.2.1, h3.2.2, ⟨⟨h4, h6⟩, fun x hx => ⟨h5 x hx, h7 x hx⟩⟩, ?_⟩
      apply Classical.byContradiction
      intro hn
      have h0 : ∀ x ∈ a :: r, x = 0 := fun x hx => Classical.byContradiction fun hx0 => hn ⟨x, hx, hx0⟩
      have ha : a = 0 := h0 a (by simp)
      rcases h8 with h8 | h8
      · exact h8 ⟨by omega, fun x hx => by rw [h0 x (List.mem_cons_of_mem _ hx)]; omega⟩
      · exact h8 ⟨by omega, fun x hx => by rw [h0 x (List.mem_cons_of_mem _ hx)]; omega⟩
  · rw [Bool.not_eq_true] at h
    simp only [h, Bool.false_and, Bool.false_eq_true, iff_false]
    rintro ⟨h1, h2, h3, _⟩
    rw [endsK_iff.2 ⟨h1, h2, h3⟩] at h; cases h

/-- how far two rows are apart in their first k columns -/
def gapI (a b : List Int) : Nat → Int
  | 0 => 0
  | k + 1 => gapI a b k + (if b.getD k 0 < a.getD k 0 then a.getD k 0 - b.getD k 0 else b.getD k 0 - a.getD k 0)
theorem gapI_bd {a b : List Int} (ha : ∀ x ∈ a, okN x) (hb : ∀ x ∈ b, okN x) (k : Nat) : 0 ≤ gapI a b k ∧ gapI a b k ≤ 4294967295 * k := by
  induction k with
  | zero => simp [gapI]
  | succ k ih =>
    have g : ∀ (l : List Int), (∀ x ∈ l, okN x) → okN (l.getD k 0) := fun l hl => by
      rcases Nat.lt_or_ge k l.length with h | h
      · rw [List.getD_eq_getElem?_getD, List.getElem?_eq_getElem h]; exact hl _ (List.getElem_mem h)
      · rw [List.getD_eq_getElem?_getD, List.getElem?_eq_none h]; unfold okN; simp
    have g1 := g a ha
    have g2 := g b hb
    unfold okN at g1 g2
    simp only [gapI]
    split <;> omega
theorem gapI_symm (a b : List Int) (k : Nat) : gapI a b k = gapI b a k := by
  induction k with
  | zero => rfl
  | succ k ih => simp only [gapI, ih]; split <;> split <;> omega
theorem gapI_tri (a b c : List Int) (k : Nat) : gapI a c k ≤ gapI a b k + gapI b c k := by
  induction k with
  | zero => simp [gapI]
  | succ k ih => simp only [gapI]; split <;> split <;> split <;> omega
theorem gapI_nn (a b : List Int) (k : Nat) : 0 ≤ gapI a b k := by
  induction k with
  | zero => simp [gapI]
  | succ k ih => simp only [gapI]; split <;> omega
theorem gapI_zero (a b : List Int) (k : Nat) : gapI a b k = 0 ↔ ∀ j, j < k → a.getD j 0 = b.getD j 0 := by
  induction k with
  | zero => simp [gapI]
  | succ k ih =>
    have h0 := gapI_nn a b k
    simp only [gapI]
    constructor
    · intro h j hj
      have h1 : gapI a b k = 0 ∧ a.getD k 0 = b.getD k 0 := by split at h <;> omega
      rcases Nat.lt_or_ge j k with g | g
      · exact ih.1 h1.1 j g
      · rw [show j = k from by omega]; exact h1.2
    · intro h
      rw [ih.2 (fun j hj => h j (by omega)), h k (by omega)]
      simp
theorem ext_getD {a b : List Int} (h : a.length = b.length) (g : ∀ j, j < a.length → a.getD j 0 = b.getD j 0) : a = b := by
  refine List.ext_getElem h fun j h1 h2 => ?_
  have := g j h1
  rw [List.getD_eq_getElem?_getD, List.getD_eq_getElem?_getD, List.getElem?_eq_getElem h1, List.getElem?_eq_getElem h2] at this
  exact this
theorem gap_same {a b : List Int} (h : a.length = b.length) : gapI a b a.length = 0 ↔ a = b := by
  rw [gapI_zero]
  exact ⟨fun g => ext_getD h g, fun e => by rw [e]; intros; rfl⟩
/-- the first of those that are nearest, among the first k -/
def nearG (g : Nat → Int) : Nat → Nat × Int
  | 0 => (0, g 0)
  | k + 1 => if g k < (nearG g k).2 then (k, g k) else nearG g k
theorem nearG_one (g : Nat → Int) : nearG g 1 = (0, g 0) := by
  show (if g 0 < g 0 then _ else _) = _
  rw [if_neg (by omega)]; rfl

/-- what may be asked: two vectors of one dimension -/
def gapE (a b : List Int) : Bool := isV a b.length && isV b b.length
theorem gapE_iff {a b : List Int} : gapE a b = true ↔ isV a a.length = true ∧ isV b a.length = true := by
  unfold gapE
  simp only [Bool.and_eq_true, isV_iff]
  constructor
  · rintro ⟨⟨h1, h2, h3, h4⟩, h5, h6, h7, h8⟩; exact ⟨⟨by omega, by omega, trivial, h4⟩, by omega, by omega, by omega, h8⟩
  · rintro ⟨⟨h1, h2, h3, h4⟩, h5, h6, h7, h8⟩; exact ⟨⟨by omega, by omega, by omega, h4⟩, by omega, by omega, trivial, h8⟩
def gapN (a b : List Int) : Int := if gapE a b then gapI a b a.length else 0
def gapC (a b : List Int) : Int := if gapE a b then 0 else 40

/-- which comes first -/
def ordL : List Int → List Int → Int
  | [], [] => 0
  | [], _ :: _ => -1
  | _ :: _, [] => 1
  | x :: a, y :: b => if x < y then -1 else if y < x then 1 else ordL a b
theorem ordL_swap : ∀ a b : List Int, ordL b a = -ordL a b
  | [], [] => rfl
  | [], _ :: _ => rfl
  | _ :: _, [] => rfl
  | x :: a, y :: b => by
    have h := ordL_swap a b
    simp only [ordL]
    split <;> split <;> first | omega | rfl
theorem ordL_zero : ∀ a b : List Int, ordL a b = 0 ↔ a = b
  | [], [] => by simp [ordL]
  | [], _ :: _ => by simp [ordL]
  | _ :: _, [] => by simp [ordL]
  | x :: a, y :: b => by
    have h := ordL_zero a b
    simp only [ordL, List.cons.injEq]
    split
    · simp; omega
    · split
      · simp; omega
      · rw [h]; constructor
        · intro e; exact ⟨by omega, e⟩
        · exact fun e => e.2
theorem ordL_tri : ∀ a b c : List Int, ordL a b < 0 → ordL b c < 0 → ordL a c < 0
  | [], [], _, h, _ => by simp [ordL] at h
  | [], _ :: _, [], _, h => by simp [ordL] at h
  | [], _ :: _, _ :: _, _, _ => by simp [ordL]
  | _ :: _, [], _, h, _ => by simp [ordL] at h
  | _ :: _, _ :: _, [], _, h => by simp [ordL] at h
  | x :: a, y :: b, z :: c, h, g => by
    have hi := ordL_tri a b c
    simp only [ordL] at h g ⊢
    split at h
    · split at g
      · rw [if_pos (by omega)]; omega
      · split at g
        · omega
        · rw [if_pos (by omega)]; omega
    · split at h
      · omega
      · split at g
        · rw [if_pos (by omega)]; omega
        · split at g
          · omega
          · rw [if_neg (by omega), if_neg (by omega)]; exact hi h g
theorem ordL_cases (a b : List Int) : ordL a b = -1 ∨ ordL a b = 0 ∨ ordL a b = 1 := by
  induction a generalizing b with
  | nil => cases b <;> simp [ordL]
  | cons x a ih =>
    cases b with
    | nil => simp [ordL]
    | cons y b =>
      simp only [ordL]
      split
      · simp
      · split
        · simp
        · exact ih b
/-- the same so far: what is behind decides -/
theorem ordL_drop : ∀ (k : Nat) (a b : List Int), k ≤ a.length → k ≤ b.length → (∀ j, j < k → a.getD j 0 = b.getD j 0) → ordL a b = ordL (a.drop k) (b.drop k)
  | 0, a, b, _, _, _ => by simp
  | k + 1, [], b, h, _, _ => by simp at h
  | k + 1, _ :: _, [], _, h, _ => by simp at h
  | k + 1, x :: a, y :: b, h, g, e => by
    have h0 := e 0 (by omega)
    simp at h0
    subst h0
    have hi := ordL_drop k a b (by simp at h; omega) (by simp at g; omega) (fun j hj => by have := e (j + 1) (by omega); simpa using this)
    simp only [ordL, List.drop_succ_cons]
    rw [if_neg (by omega), if_neg (by omega), hi]
theorem drop_get (l : List Int) {k : Nat} (h : k < l.length) : l.drop k = l.getD k 0 :: l.drop (k + 1) := by
  rw [List.drop_eq_getElem_cons h]
  simp [List.getD, h]

theorem ord_at {a b : List Int} {k : Nat} (h : k < a.length) (g : k < b.length) (e : ∀ j, j < k → a.getD j 0 = b.getD j 0) :
    ordL a b = if a.getD k 0 < b.getD k 0 then -1 else if b.getD k 0 < a.getD k 0 then 1 else ordL (a.drop (k + 1)) (b.drop (k + 1)) := by
  rw [ordL_drop k a b (by omega) (by omega) e, drop_get a h, drop_get b g]; rfl
theorem ord_end {a b : List Int} (e : ∀ j, j < a.length → j < b.length → a.getD j 0 = b.getD j 0) :
    ordL a b = if (a.length : Int) < b.length then -1 else if (b.length : Int) < a.length then 1 else 0 := by
  rcases Nat.lt_or_ge b.length a.length with h | h
  · rw [ordL_drop b.length a b (by omega) (by omega) (fun j hj => e j (by omega) hj), drop_get a h, List.drop_length, if_neg (by omega), if_pos (by omega)]; rfl
  · rw [ordL_drop a.length a b (by omega) (by omega) (fun j hj => e j hj (by omega)), List.drop_length]
    rcases Nat.lt_or_ge a.length b.length with g | g
    · rw [drop_get b g, if_pos (by omega)]; rfl
    · rw [show a.length = b.length from by omega, List.drop_length, if_neg (by omega), if_neg (by omega)]; rfl
/-! Rows in memory. -/
structure Row where
  a : Option Addr
  l : List Int
  c : Nat
abbrev row0 : Row := ⟨none, [], 0⟩
def rowV (r : Row) : Value := .slice r.a r.l.length r.c
/-- rows of ints lie from A on, all in blocks below B -/
def LiesR (w : World) (B : Nat) (A : Option Addr) (R : List Row) : Prop :=
  (0 < R.length → ∃ ad : Addr, A = some ad ∧ ad.block < B ∧ ∀ j, j < R.length → w.cell? (ad.add j) = some (rowV (R.getD j row0))) ∧ ∀ r ∈ R, Lies w B r.a r.l
theorem LiesR.below {w w' : World} {B : Nat} {A : Option Addr} {R : List Row} (h : LiesR w B A R) (hb : Below B w w') : LiesR w' B A R := by
  refine ⟨fun h0 => ?_, fun r hr => (h.2 r hr).below hb⟩
  obtain ⟨ad, e, hB, hc⟩ := h.1 h0
  exact ⟨ad, e, hB, fun j hj => (hb.cell (by rw [add_block]; exact hB)).trans (hc j hj)⟩
theorem LiesR.mono {w : World} {B B' : Nat} {A : Option Addr} {R : List Row} (h : LiesR w B A R) (hB : B ≤ B') : LiesR w B' A R := by
  refine ⟨fun h0 => ?_, fun r hr => (h.2 r hr).mono hB⟩
  obtain ⟨ad, e, hb, hc⟩ := h.1 h0
  exact ⟨ad, e, by omega, hc⟩
theorem getD_mem {R : List Row} {k : Nat} (h : k < R.length) : R.getD k row0 ∈ R := by
  rw [List.getD_eq_getElem?_getD, List.getElem?_eq_getElem h]
  exact List.getElem_mem h
theorem LiesR.at {w : World} {B : Nat} {A : Option Addr} {R : List Row} (h : LiesR w B A R) {k : Nat} (hk : k < R.length) :
    ∃ ad : Addr, A = some ad ∧ ad.block < B ∧ w.cell? (ad.add k) = some (.slice (R.getD k row0).a (R.getD k row0).l.length (R.getD k row0).c) ∧ Lies w B (R.getD k row0).a (R.getD k row0).l := by
  obtain ⟨ad, e, hb, hc⟩ := h.1 (by omega)
  exact ⟨ad, e, hb, hc k hk, h.2 _ (getD_mem hk)⟩
theorem LiesR.nil {w : World} {B : Nat} {A : Option Addr} : LiesR w B A [] := ⟨fun h => absurd h (by simp), fun r hr => by cases hr⟩
/-- behind the first k of them -/
theorem lies_cut {w : World} {B c : Nat} {A : Option Addr} {l : List Int} (h : Lies w B A l) (f : Nat) (hf : f ≤ l.length) (hc : l.length ≤ c) :
    Lies w B (if c = f then A else A.map (·.add f)) (l.drop f) := fun h0 => by
  rw [List.length_drop] at h0
  obtain ⟨ad, rfl, hb, hcell⟩ := h (by omega)
  rw [if_neg (by omega)]
  refine ⟨ad.add f, rfl, by rw [add_block]; exact hb, fun j hj => ?_⟩
  rw [List.length_drop] at hj
  rw [Addr.add_add, hcell (f + j) (by omega)]
  congr 2
  rw [List.getD_eq_getElem?_getD, List.getD_eq_getElem?_getD, List.getElem?_drop]
theorem liesR_cut {w : World} {B c : Nat} {A : Option Addr} {R : List Row} (h : LiesR w B A R) (f : Nat) (hf : f ≤ R.length) (hc : R.length ≤ c) :
    LiesR w B (if c = f then A else A.map (·.add f)) (R.drop f) := by
  refine ⟨fun h0 => ?_, fun r hr => h.2 r (List.mem_of_mem_drop hr)⟩
  rw [List.length_drop] at h0
  obtain ⟨ad, rfl, hb, hcell⟩ := h.1 (by omega)
  rw [if_neg (by omega)]
  refine ⟨ad.add f, rfl, by rw [add_block]; exact hb, fun j hj => ?_⟩
  rw [List.length_drop] at hj
  rw [Addr.add_add, hcell (f + j) (by omega)]
  congr 2
  rw [List.getD_eq_getElem?_getD, List.getD_eq_getElem?_getD, List.getElem?_drop]
theorem Lies.at {w : World} {B : Nat} {A : Option Addr} {l : List Int} (h : Lies w B A l) {k : Nat} (hk : k < l.length) :
    ∃ ad : Addr, A = some ad ∧ ad.block < B ∧ w.cell? (ad.add k) = some (.int .i64 (l.getD k 0)) := by
  obtain ⟨ad, e, hb, hc⟩ := h (by omega)
  exact ⟨ad, e, hb, hc k hk⟩
end Go.Proofs.Ytehekdahlnpldaa
