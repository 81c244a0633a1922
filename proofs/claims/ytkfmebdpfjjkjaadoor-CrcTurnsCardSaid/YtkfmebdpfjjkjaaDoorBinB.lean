/- Layer 21 (bin): what is written. -/
import Derived.Test.YtkfmebdpfjjkjaaDoorBinA
namespace Go.Proofs.YtkfmebdpfjjkjaaDoor
open Go.RowKit
set_option linter.unusedVariables false
set_option linter.unusedSimpArgs false

set_option maxRecDepth 100000 in
set_option maxHeartbeats 2000000 in
theorem ref_SameY (l : List Int) (A A2 : Option Addr) (c c2 B : Nat) (w : World) (hA : LiesY w B A l) (hA2 : LiesY w B A2 l) :
    Calls Tryd.prog 14 #[.slice A l.length c, .slice A2 l.length c2] w fun e w' => e = .returned (.bool true) ∧ w = w' := by
  have k1 := conv_y w A l c B hA
  have k2 := conv_y w A2 l c2 B hA2
  generalize strOfNums l = st at *
  clear hA hA2
  generalize l.length = n at *
  go_enter Tryd.func14, Tryd.ntmps14
  go_wp2
  go_ret
  exact ⟨by simp, rfl⟩
theorem pow8 (s : Nat) : (2 : Int) ^ (8 * s) = ((256 ^ s : Nat) : Int) := by
  rw [Int.pow_mul]
  simp
theorem shr8 (n s : Nat) : (n : Int) / 2 ^ (8 * s) = ((n / 256 ^ s : Nat) : Int) := by
  rw [pow8, Int.natCast_ediv]
theorem beB_at (q : Nat) : ∀ n : Nat, q < (beB n).length → (beB n)[(beB n).length - 1 - q]? = some ((n / 256 ^ q % 256 : Nat) : Int) := by
  induction q with
  | zero =>
    intro n h
    have hn : n ≠ 0 := by intro e; rw [e, beB_0] at h; simp at h
    rw [beB_pos hn, List.length_append, List.length_singleton, List.getElem?_append_right (by omega)]
    simp
  | succ q ih =>
    intro n h
    have hn : n ≠ 0 := by intro e; rw [e, beB_0] at h; simp at h
    rw [beB_pos hn, List.length_append, List.length_singleton] at h
    have h1 := ih (n / 256) (by omega)
    rw [beB_pos hn, List.length_append, List.length_singleton, List.getElem?_append_left (by omega), show (beB (n / 256)).length + 1 - 1 - (q + 1) = (beB (n / 256)).length - 1 - q from by omega, h1, Nat.div_div_eq_div_mul, Nat.pow_succ, Nat.mul_comm (256 ^ q) 256]
theorem beB_take {n s q : Nat} (hs : (beB n).length = s) (hq : q < s) : (beB n).take (s - q) = (beB n).take (s - (q + 1)) ++ [((n / 256 ^ q % 256 : Nat) : Int)] := by
  have h := beB_at q n (by omega)
  rw [show s - q = s - (q + 1) + 1 from by omega, List.take_add_one, show s - (q + 1) = (beB n).length - 1 - q from by omega, h]
  rfl
end Go.Proofs.YtkfmebdpfjjkjaaDoor
