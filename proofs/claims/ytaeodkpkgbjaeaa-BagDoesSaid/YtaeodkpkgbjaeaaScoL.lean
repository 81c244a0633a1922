/- Rows of scores in the memory: two cells each. -/
import Derived.Test.YtaeodkpkgbjaeaaScoA
namespace Go.Proofs.Ytaeodkpkgbjaeaa
open Go.RowKit
set_option linter.unusedVariables false
set_option linter.unusedSimpArgs false
set_option maxRecDepth 100000

abbrev PQ := Int × Int
abbrev pq0 : PQ := (0, 0)
/-- the scores lie in the memory from A on, in a block below B -/
def LiesS (w : World) (B : Nat) (A : Option Addr) (l : List PQ) : Prop :=
  0 < l.length → ∃ ad : Addr, A = some ad ∧ ad.block < B ∧ ∀ j, j < l.length → w.cell? (ad.add (j * 2)) = some (.int .i64 (l.getD j pq0).1) ∧ w.cell? (ad.add (j * 2 + 1)) = some (.int .i64 (l.getD j pq0).2)
theorem LiesS.nil {w : World} {B : Nat} {A : Option Addr} : LiesS w B A [] := fun h => absurd h (by simp)
theorem LiesS.below {w w' : World} {B : Nat} {A : Option Addr} {l : List PQ} (h : LiesS w B A l) (hb : Below B w w') : LiesS w' B A l := fun h0 => by
  obtain ⟨ad, e, hB, hc⟩ := h h0
  refine ⟨ad, e, hB, fun j hj => ?_⟩
  obtain ⟨c0, c1⟩ := hc j hj
  have k : ∀ i, w'.cell? (ad.add i) = w.cell? (ad.add i) := fun i => hb.cell (by rw [add_block]; exact hB)
  rw [k, k]
  exact ⟨c0, c1⟩
theorem LiesS.mono {w : World} {B B' : Nat} {A : Option Addr} {l : List PQ} (h : LiesS w B A l) (hB : B ≤ B') : LiesS w B' A l := fun h0 => by
  obtain ⟨ad, e, hb, hc⟩ := h h0
  exact ⟨ad, e, by omega, hc⟩
theorem fldS (ad : Addr) (n m : Nat) (h : 0 < m) : (⟨(ad.add n).block, (ad.add n).off + m, none⟩ : Addr) = ad.add (n + m) := by
  unfold Addr.add
  by_cases g : n = 0
  · subst g
    simp
    omega
  · simp [g, show ¬ n + m = 0 from by omega]
    omega
theorem add_addS (ad : Addr) (n m : Nat) : (ad.add n).add m = ad.add (n + m) := by
  unfold Addr.add
  by_cases g : n = 0
  · subst g; simp
  · by_cases k : m = 0
    · subst k; simp [g]
    · simp [g, k]; omega
/-- the front, and what is behind it -/
theorem LiesS.take {w : World} {B : Nat} {A : Option Addr} {l : List PQ} (h : LiesS w B A l) (k : Nat) : LiesS w B A (l.take k) := fun h0 => by
  obtain ⟨ad, e, hb, hc⟩ := h (by simp at h0; omega)
  refine ⟨ad, e, hb, fun j hj => ?_⟩
  have hj' : j < l.length ∧ j < k := by simp at hj; omega
  have e1 : (l.take k).getD j pq0 = l.getD j pq0 := by
    rw [List.getD_eq_getElem?_getD, List.getD_eq_getElem?_getD, List.getElem?_take_of_lt hj'.2]
  rw [e1]
  exact hc j hj'.1
theorem LiesS.drop {w : World} {B : Nat} {ad : Addr} {l : List PQ} (h : LiesS w B (some ad) l) (k : Nat) : LiesS w B (some (ad.add (k * 2))) (l.drop k) := fun h0 => by
  have hk : k < l.length := by simp at h0; omega
  obtain ⟨ad', e, hb, hc⟩ := h (by omega)
  obtain rfl := Option.some.inj e
  refine ⟨_, rfl, by rw [add_block]; exact hb, fun j hj => ?_⟩
  have hj' : k + j < l.length := by simp at hj; omega
  have e1 : (l.drop k).getD j pq0 = l.getD (k + j) pq0 := by
    rw [List.getD_eq_getElem?_getD, List.getD_eq_getElem?_getD, List.getElem?_drop]
  rw [e1, add_addS, add_addS]
  have := hc (k + j) hj'
  rw [show k * 2 + j * 2 = (k + j) * 2 by omega, show k * 2 + (j * 2 + 1) = (k + j) * 2 + 1 by omega]
  exact this
/-- a score of the row -/
theorem LiesS.at {w : World} {B : Nat} {A : Option Addr} {l : List PQ} (h : LiesS w B A l) {k : Nat} (hk : k < l.length) : ∃ ad : Addr, A = some ad ∧ ad.block < B ∧ w.cell? (ad.add (k * 2)) = some (.int .i64 (l.getD k pq0).1) ∧ w.cell? ⟨(ad.add (k * 2)).block, (ad.add (k * 2)).off + 1, none⟩ = some (.int .i64 (l.getD k pq0).2) := by
  obtain ⟨ad, e, hb, hc⟩ := h (by omega)
  obtain ⟨c0, c1⟩ := hc k hk
  exact ⟨ad, e, hb, c0, by rw [fldS _ _ _ (by omega)]; exact c1⟩
def celS (l : List PQ) : List Value := l.flatMap fun x => [.int .i64 x.1, .int .i64 x.2]
theorem celS_len (l : List PQ) : (celS l).length = l.length * 2 := by
  induction l with
  | nil => rfl
  | cons x l ih => unfold celS at ih ⊢; rw [List.flatMap_cons, List.length_append, ih]; simp; omega
theorem celS_at : ∀ (l : List PQ) (j : Nat), j < l.length → (celS l)[j * 2]? = some (.int .i64 (l.getD j pq0).1) ∧ (celS l)[j * 2 + 1]? = some (.int .i64 (l.getD j pq0).2)
  | [], j, h => absurd h (by simp)
  | x :: l, 0, h => ⟨rfl, rfl⟩
  | x :: l, j + 1, h => by
    have ih := celS_at l j (by simpa using h)
    have e : celS (x :: l) = [.int .i64 x.1, .int .i64 x.2] ++ celS l := rfl
    rw [e, show (j + 1) * 2 = 2 + j * 2 by omega]
    constructor
    · rw [List.getElem?_append_right (by simp), show 2 + j * 2 - [Value.int IntKind.i64 x.1, .int .i64 x.2].length = j * 2 by simp]
      simpa using ih.1
    · rw [List.getElem?_append_right (by simp; omega), show 2 + j * 2 + 1 - [Value.int IntKind.i64 x.1, .int .i64 x.2].length = j * 2 + 1 by simp; omega]
      simpa using ih.2
theorem celS_app (a b : List PQ) : celS (a ++ b) = celS a ++ celS b := by unfold celS; rw [List.flatMap_append]
theorem celS_one {l : List PQ} : ∀ u ∈ celS l, u.oneCell' = true := by
  intro u hu
  unfold celS at hu
  rw [List.mem_flatMap] at hu
  obtain ⟨x, -, hx⟩ := hu
  simp only [List.mem_cons, List.not_mem_nil, or_false] at hx
  rcases hx with rfl | rfl <;> rfl
/-- what the row's cells are, one by one -/
theorem LiesS.cells {w : World} {B : Nat} {ad : Addr} {l : List PQ} (h : LiesS w B (some ad) l) : ∀ j u, (celS l)[j]? = some u → w.cell? (ad.add j) = some u := by
  intro j u hu
  have hj : j < l.length * 2 := by
    have := (List.getElem?_eq_some_iff.1 hu).1
    rwa [celS_len] at this
  obtain ⟨ad', e, hb, hc⟩ := h (by omega)
  obtain rfl := Option.some.inj e
  obtain ⟨c0, c1⟩ := hc (j / 2) (by omega)
  obtain ⟨d0, d1⟩ := celS_at l (j / 2) (by omega)
  rcases Nat.mod_two_eq_zero_or_one j with hm | hm
  · have e1 : j / 2 * 2 = j := by omega
    rw [e1] at c0 d0
    rw [c0, ← d0, hu]
  · have e1 : j / 2 * 2 + 1 = j := by omega
    rw [e1] at c1 d1
    rw [c1, ← d1, hu]
theorem lies_cells {w : World} {B : Nat} {ad : Addr} {l : List PQ} (hb : ad.block < B) (h : ∀ j u, (celS l)[j]? = some u → w.cell? (ad.add j) = some u) : LiesS w B (some ad) l := fun h0 =>
  ⟨ad, rfl, hb, fun j hj => ⟨h _ _ (celS_at l j hj).1, h _ _ (celS_at l j hj).2⟩⟩
/-- a row of the call's own -/
abbrev OwnS (w : World) (B : Nat) (v : Value) (l : List PQ) : Prop := w.ownsRow B 24 2 v l.length (celS l)
/-- the value of a row of the call's own, and how it lies -/
theorem OwnS.lies {w : World} {B : Nat} {v : Value} {l : List PQ} (h : OwnS w B v l) : ∃ A c, v = .slice A l.length c ∧ LiesS w w.heap.size A l := by
  rcases h.2 with ⟨h1, h0⟩ | ⟨g, cap, cur, h1, hb, hh, hnc, hm, hsz, hx⟩
  · have : l = [] := List.eq_nil_of_length_eq_zero h0
    subst this
    exact ⟨none, 0, h1, LiesS.nil⟩
  · refine ⟨_, cap, h1, lies_cells (ad := ⟨g, 0, none⟩) ?_ fun j u hu => ?_⟩
    · rcases Nat.lt_or_ge g w.heap.size with h | h
      · exact h
      · rw [Array.getElem?_eq_none h] at hh; cases hh
    · have e1 : (⟨g, 0, none⟩ : Addr).add j = ⟨g, j, none⟩ := by unfold Addr.add; split <;> simp_all
      rw [e1]
      refine (cell_of_row w g j _ _ (0, 0) hh).trans ?_
      rw [← hx, List.getElem?_take] at hu
      split at hu
      · simpa using hu
      · cases hu
/-- what a function of a list of scores gives -/
def GivesSco (l : List PQ) (e0 : Int) (w : World) (e : Ending) (w' : World) : Prop := ∃ A c, e = .returned (.tuple #[.slice A l.length c, .int .i64 e0]) ∧ LiesS w' w'.heap.size A l ∧ Below w.heap.size w w'
def allS (l : List PQ) : Bool := l.all fun x => scoB x.1 x.2
end Go.Proofs.Ytaeodkpkgbjaeaa
