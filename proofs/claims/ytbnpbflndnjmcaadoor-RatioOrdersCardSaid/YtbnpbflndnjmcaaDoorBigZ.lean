/- Contracts of copseref01 by signed value: Both, Product, Turn, Int; Fits. -/
import Derived.Test.YtbnpbflndnjmcaaDoorBigI
namespace Go.Proofs.YtbnpbflndnjmcaaDoor
open Go.RowKit

/-- it is the sign of n (a nought may bear either) -/
def SgnOf (neg : Bool) (n : Int) : Prop := n ≠ 0 → neg = decide (n < 0)
def GivesZ (n : Int) (w : World) (e : Ending) (w' : World) : Prop :=
  ∃ neg A c, e = .returned (.agg #[.bool neg, .slice A (digs n.natAbs).length c]) ∧ SgnOf neg n ∧ Lies w' w'.heap.size A (digs n.natAbs) ∧ Below w.heap.size w w'
theorem givesZ_of {neg : Bool} {m n : Int} {w w' : World} {e : Ending} (h : GivesW neg m w e w') (hm : m = n.natAbs) (hs : SgnOf neg n) : GivesZ n w e w' := by
  obtain ⟨A, c, he, hc, _, hL, hb⟩ := h
  rw [hm] at he hL
  exact ⟨neg, A, c, he, hs, hL, hb⟩

theorem int_z (n : Int) (hn : I64 n) (w : World) : Calls Tryd.prog 41 #[.int .i64 n] w (GivesZ n w) :=
  (ref_int n hn w).mono fun _ _ h => givesZ_of h rfl (fun _ => rfl)

theorem turn_z (neg : Bool) (n : Int) (A : Option Addr) (c : Nat) (w : World) (hs : SgnOf neg n) (hA : Lies w w.heap.size A (digs n.natAbs)) :
    Calls Tryd.prog 42 #[.agg #[.bool neg, .slice A (digs n.natAbs).length c]] w (GivesZ (-n) w) :=
  (ref_turn neg A (digs n.natAbs).length c w).mono fun e w' ⟨he, hb⟩ => by
    refine ⟨!neg, A, c, by rw [Int.natAbs_neg]; exact he, fun h => ?_, ?_, hb⟩
    · rw [hs (by omega)]
      by_cases h2 : n < 0
      · have h3 : ¬ (-n < 0) := by omega
        rw [decide_eq_true h2, decide_eq_false h3]; rfl
      · have h3 : -n < 0 := by omega
        rw [decide_eq_false h2, decide_eq_true h3]; rfl
    · rw [Int.natAbs_neg]; exact (hA.below hb).mono hb.size

theorem product_z (na nb : Bool) (x y : Int) (A A2 : Option Addr) (ca cb : Nat) (w : World) (sx : SgnOf na x) (sy : SgnOf nb y) (hA : Lies w w.heap.size A (digs x.natAbs)) (hB : Lies w w.heap.size A2 (digs y.natAbs)) (hl : (digs x.natAbs).length + (digs y.natAbs).length ≤ 100000) :
    Calls Tryd.prog 40 #[.agg #[.bool na, .slice A (digs x.natAbs).length ca], .agg #[.bool nb, .slice A2 (digs y.natAbs).length cb]] w (GivesZ (x * y) w) := by
  refine (ref_product na nb x.natAbs y.natAbs A A2 ca cb w (by omega) (by omega) hA hB hl).mono fun e w' h => givesZ_of h (by rw [Int.natAbs_mul]; rfl) (fun h => ?_)
  have hx : x ≠ 0 := by rintro rfl; simp at h
  have hy : y ≠ 0 := by rintro rfl; simp at h
  rw [sx hx, sy hy]
  rcases Int.lt_or_gt_of_ne hx with h1 | h1 <;> rcases Int.lt_or_gt_of_ne hy with h2 | h2
  · have := Int.mul_pos_of_neg_of_neg h1 h2
    have h3 : ¬ (x * y < 0) := by omega
    simp [h1, h2, h3]
  · have h3 := Int.mul_neg_of_neg_of_pos h1 h2
    have h4 : ¬ y < 0 := by omega
    simp [h1, h3, h4]
  · have h3 := Int.mul_neg_of_pos_of_neg h1 h2
    have h4 : ¬ x < 0 := by omega
    simp [h2, h3, h4]
  · have := Int.mul_pos h1 h2
    have h3 : ¬ (x * y < 0) := by omega
    have h4 : ¬ x < 0 := by omega
    have h5 : ¬ y < 0 := by omega
    simp [h3, h4, h5]

theorem both_z (na nb : Bool) (x y : Int) (A A2 : Option Addr) (ca cb : Nat) (w : World) (sx : SgnOf na x) (sy : SgnOf nb y) (hA : Lies w w.heap.size A (digs x.natAbs)) (hB : Lies w w.heap.size A2 (digs y.natAbs)) (hl : (digs x.natAbs).length + (digs y.natAbs).length ≤ 100000) :
    Calls Tryd.prog 39 #[.agg #[.bool na, .slice A (digs x.natAbs).length ca], .agg #[.bool nb, .slice A2 (digs y.natAbs).length cb]] w (GivesZ (x + y) w) := by
  have key : ∀ (b : Bool) (p : Prop) [Decidable p], (b = decide p) → ((b = true) ↔ p) := fun b p _ h => by rw [h]; simp
  by_cases hs : (na == nb) = true
  · have hs' : na = nb := by simpa using hs
    subst hs'
    have hsame : (0 ≤ x ∧ 0 ≤ y) ∨ (x ≤ 0 ∧ y ≤ 0) := by
      by_cases hx : x = 0
      · omega
      · by_cases hy : y = 0
        · omega
        · have h1 := key _ _ (sx hx)
          have h2 := key _ _ (sy hy)
          cases na <;> simp at h1 h2 <;> omega
    refine (both_same na na x.natAbs y.natAbs A A2 ca cb w (by omega) (by omega) hA hB hl hs).mono fun e w' h => givesZ_of h (by omega) (fun h => ?_)
    by_cases hx : x = 0
    · have := sy (by omega); rw [this]; congr 1; rw [eq_iff_iff]; omega
    · have := sx hx; rw [this]; congr 1; rw [eq_iff_iff]; omega
  · have hs' : (na == nb) = false := by simpa using hs
    have hne : na ≠ nb := by simpa using hs
    have hopp : (0 ≤ x ∧ y ≤ 0) ∨ (x ≤ 0 ∧ 0 ≤ y) := by
      by_cases hx : x = 0
      · omega
      · by_cases hy : y = 0
        · omega
        · have h1 := key _ _ (sx hx)
          have h2 := key _ _ (sy hy)
          cases na <;> cases nb <;> simp at h1 h2 hne <;> omega
    by_cases hle : (y.natAbs : Int) ≤ x.natAbs
    · refine (both_ge na nb x.natAbs y.natAbs A A2 ca cb w (by omega) (by omega) hA hB hl hs' hle).mono fun e w' h => givesZ_of h (by omega) (fun h => ?_)
      have := sx (by omega); rw [this]; congr 1; rw [eq_iff_iff]; omega
    · refine (both_lt na nb x.natAbs y.natAbs A A2 ca cb w (by omega) (by omega) hA hB hl hs' (by omega) (by omega)).mono fun e w' h => givesZ_of h (by omega) (fun h => ?_)
      have := sy (by omega); rw [this]; congr 1; rw [eq_iff_iff]; omega
end Go.Proofs.YtbnpbflndnjmcaaDoor
