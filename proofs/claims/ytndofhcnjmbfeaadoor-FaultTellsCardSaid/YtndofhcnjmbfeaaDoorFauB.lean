/- The contract of fault.Class. -/
import Derived.Test.YtndofhcnjmbfeaaDoorFauA
namespace Go.Proofs.YtndofhcnjmbfeaaDoor
open Go.RowKit

/-- the class of a code -/
def clN (c : Int) : Int := if c = 0 then 0 else if c = 60 ∨ c = 61 then 2 else if c = 2 ∨ c = 8 then 3 else if c = 6 ∨ c = 7 then 4 else if c = 20 ∨ c = 210 ∨ c = 211 ∨ c = 240 ∨ c = 270 ∨ c = 350 then 5 else 1
theorem cl_cases (c : Int) : c = 0 ∨ c = 60 ∨ c = 61 ∨ c = 2 ∨ c = 8 ∨ c = 6 ∨ c = 7 ∨ c = 20 ∨ c = 210 ∨ c = 211 ∨ c = 240 ∨ c = 270 ∨ c = 350 ∨ (clN c = 1 ∧ (c == 0) = false ∧ (c == 60) = false ∧ (c == 61) = false ∧ (c == 2) = false ∧ (c == 8) = false ∧ (c == 6) = false ∧ (c == 7) = false ∧ (c == 20) = false ∧ (c == 210) = false ∧ (c == 211) = false ∧ (c == 240) = false ∧ (c == 270) = false ∧ (c == 350) = false) := by
  unfold clN
  simp only [beq_eq_false_iff_ne, ne_eq]
  split
  · omega
  · split
    · omega
    · split
      · omega
      · split
        · omega
        · split
          · omega
          · omega
theorem fau_class (c : Int) (w : World) : Calls Tryd.prog 19 #[.int .i64 c] w fun e w' => e = .returned (.int .i64 (clN c)) ∧ w' = w := by
  rcases cl_cases c with rfl | rfl | rfl | rfl | rfl | rfl | rfl | rfl | rfl | rfl | rfl | rfl | rfl | ⟨h, h0, h60, h61, h2, h8, h6, h7, h20, h210, h211, h240, h270, h350⟩
  all_goals
    go_enter Tryd.func19, Tryd.ntmps19
    go_wp2
    go_ret
    first | exact ⟨rfl, rfl⟩ | exact ⟨by rw [h]; rfl, rfl⟩
end Go.Proofs.YtndofhcnjmbfeaaDoor
