import Derived.Test.YtkfmebdpfjjkjaaDoorCutT
import Derived.Test.YtkfmebdpfjjkjaaDoorDrawT

/-! Layer 9: what the statements ask of every program. -/
namespace Go.Proofs.YtkfmebdpfjjkjaaDoor
open Go.RowKit
set_option linter.unusedVariables false
set_option linter.unusedSimpArgs false

theorem boxLies {w : World} {g : Nat} {cs : Array Value} {l : List Int} (h : Box w g cs 3) (hc : cs = (litI l).toArray) : Lies w w.heap.size (some ⟨g, 0, none⟩) l := fun _ => by
  refine ⟨⟨g, 0, none⟩, rfl, h.lt, fun j hj => ?_⟩
  have h1 : (⟨g, 0, none⟩ : Addr).add j = ⟨g, j, none⟩ := by unfold Addr.add; split <;> simp_all
  rw [h1, h.cell j, hc]
  rw [← litI_get l j hj]; simp
abbrev R9 (a b : Option Addr) : List Row := [⟨a, [1, 5], 2⟩, ⟨b, [3, 5], 2⟩]
theorem dv1 (a b : Option Addr) : drw 1 (R9 a b) [0, 1] 0 1 = ([1, 0], 3, 2, true, 0) := by kernel_rfl
theorem dv2 (a : Option Addr) : drw 2 [⟨a, [1, 5], 2⟩] [] 3 1 = ([], 0, 3, false, 0) := by kernel_rfl
theorem dv3 (a b : Option Addr) : lft [1, 0] 3 (R9 a b) = [0] ∧ rgt [1, 0] 3 (R9 a b) = [1] ∧ splC [1, 0] 3 (R9 a b) = 0 := ⟨by kernel_rfl, by kernel_rfl, by kernel_rfl⟩
theorem dv4 : lefB [1, 0] 3 [1, 5] = true ∧ lefC [1, 0] 3 [1, 5] = 0 ∧ samC [1, 0] 3 [1, 0] 3 = true ∧ isC [1, 0] 3 2 = true ∧ isC [1, 0] 3 3 = false := by decide +kernel
theorem okR9 (a b : Option Addr) : OkR (R9 a b) := by
  intro r hr
  simp at hr
  rcases hr with rfl | rfl <;> refine ⟨by simp, by simp, fun x hx => ?_⟩ <;> (simp at hx; unfold I64; omega)
theorem okR91 (a : Option Addr) : OkR [⟨a, [1, 5], 2⟩] := by
  intro r hr
  simp at hr
  subst hr
  refine ⟨by simp, by simp, fun x hx => ?_⟩
  simp at hx; unfold I64; omega
theorem lies_up {w w' : World} {A : Option Addr} {l : List Int} (h : Lies w w.heap.size A l) (hb : Below w.heap.size w w') : Lies w' w'.heap.size A l := (h.below hb).mono hb.size
end Go.Proofs.YtkfmebdpfjjkjaaDoor
