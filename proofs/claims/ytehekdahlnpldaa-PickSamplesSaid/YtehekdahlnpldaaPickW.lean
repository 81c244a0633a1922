import Derived.Test.YtehekdahlnpldaaPickB

/-! Layer 7: a place by weights: numbers; the program's, the reference's. -/
namespace Go.Proofs.Ytehekdahlnpldaa
open Go.RowKit
set_option linter.unusedVariables false
set_option linter.unusedSimpArgs false

/-- the sum of the first weights -/
def psum (l : List Int) : Nat → Int
  | 0 => 0
  | k + 1 => psum l k + l.getD k 0
def wIn (x : Int) : Prop := 0 ≤ x ∧ x ≤ 1099511627776
instance (x : Int) : Decidable (wIn x) := by unfold wIn; exact inferInstance
def wOk (l : List Int) : Prop := l.length ≤ 256 ∧ ∀ j, j < l.length → wIn (l.getD j 0)
theorem psum_bd {l : List Int} : ∀ k, (∀ j, j < k → wIn (l.getD j 0)) → 0 ≤ psum l k ∧ psum l k ≤ k * 1099511627776
  | 0, _ => by simp [psum]
  | k + 1, h => by
    have h1 := psum_bd k (fun j hj => h j (by omega))
    have h2 := h k (by omega)
    unfold wIn at h2
    have : ((k + 1 : Nat) : Int) * 1099511627776 = k * 1099511627776 + 1099511627776 := by rw [Int.natCast_add, Int.add_mul]; simp
    simp only [psum]
    omega
theorem psum_mono {l : List Int} {m : Nat} (h : ∀ j, j < m → wIn (l.getD j 0)) {i : Nat} (hi : i ≤ m) : psum l i ≤ psum l m := by
  induction m with
  | zero => rw [show i = 0 from by omega]; exact Int.le_refl _
  | succ m ih =>
    by_cases e : i = m + 1
    · rw [e]; exact Int.le_refl _
    · have h2 := h m (by omega)
      unfold wIn at h2
      have := ih (fun j hj => h j (by omega)) (by omega)
      simp only [psum]
      omega
/-- the place of a number among the weights -/
def wIdx (l : List Int) (x : Int) : Int := (((List.range l.length).find? (fun i => decide (x < psum l (i + 1)))).getD 0 : Nat)
theorem wIdx_eq {l : List Int} {x : Int} {i : Nat} (hi : i < l.length) (hx : x < psum l (i + 1)) (h : ∀ j, j < i → ¬ x < psum l (j + 1)) : wIdx l x = i := by
  unfold wIdx
  rw [List.find?_range_eq_some.2 ⟨by simpa using hx, by simpa using hi, fun j hj => by simpa using h j hj⟩]
  rfl
instance (l : List Int) : Decidable (wOk l) := by unfold wOk; exact inferInstance
def totV (l : List Int) : Int × Bool := if wOk l then (psum l l.length, decide (0 < psum l l.length)) else (0, false)
def wgh (l : List Int) (a : Int) (ws : List Int) (t : Int) : Int × Int × Int :=
  if wOk ws ∧ 0 < psum ws ws.length ∧ 0 ≤ a ∧ 1 ≤ t ∧ t ≤ 64 then (if (bnd l a (psum ws ws.length) t).2.2 = 0 then (wIdx ws (bnd l a (psum ws ws.length) t).1, (bnd l a (psum ws ws.length) t).2.1, 0) else (0, 0, (bnd l a (psum ws ws.length) t).2.2)) else (0, 0, 1)
end Go.Proofs.Ytehekdahlnpldaa
