import Derived.Test.YtdcemcpcjdkpjaaTreeL
import Derived.Test.YtdcemcpcjdkpjaaTreeD

/-! Layer 10: the reference's Down and Leaf. -/
namespace Go.Proofs.Ytdcemcpcjdkpjaa
open Go.RowKit
set_option linter.unusedVariables false
set_option linter.unusedSimpArgs false

theorem dnT_le (N : List TN) (x : List Int) : ∀ f i, (dnT N x f i).2 ≤ f
  | 0, i => by simp [dnT]
  | f + 1, i => by
    by_cases h : (N.getD i tn0).lf = 0
    · rw [dnT_leaf h]; exact Nat.zero_le _
    · rw [dnT_step h]
      have := dnT_le N x f (toT (N.getD i tn0) x).toNat
      show _ + 1 ≤ f + 1
      omega
end Go.Proofs.Ytdcemcpcjdkpjaa
