import Derived.Test.YtdcemcpcjdkpjaaTrA
import Derived.Test.YtdcemcpcjdkpjaaCutG

/-! Layer 10: what is grown: numbers. -/
namespace Go.Proofs.Ytdcemcpcjdkpjaa
open Go.RowKit
set_option linter.unusedVariables false
set_option linter.unusedSimpArgs false

theorem lgT_le (n : Int) : lgT n ≤ 6 := by
  unfold lgT
  split
  · omega
  · split
    · omega
    · split
      · omega
      · split
        · omega
        · split
          · omega
          · split <;> omega
theorem groG_len {k a t : Int} {R : List Row} {l : List Int} : (groG k R l a t).2.1.length ≤ 127 := by
  unfold groG
  split
  · simp
  · split
    · split
      · split
        · have h := (grN_bd (k := k) (t := t) (l := l) (lgT (R.length : Int)) R a).1
          have h2 : 2 ^ (lgT (R.length : Int) + 1) ≤ 2 ^ 7 := Nat.pow_le_pow_right (by omega) (by have := lgT_le (R.length : Int); omega)
          show (grN k l t (lgT (R.length : Int)) R a).1.length ≤ 127
          omega
        · simp
      · simp
    · simp
end Go.Proofs.Ytdcemcpcjdkpjaa
