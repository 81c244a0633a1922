import Derived.Test.YtdcemcpcjdkpjaaTreeB
import Derived.Test.YtdcemcpcjdkpjaaNumLog

/-! Layer 10: the reference's Is. -/
namespace Go.Proofs.Ytdcemcpcjdkpjaa
open Go.RowKit
set_option linter.unusedVariables false
set_option linter.unusedSimpArgs false

theorem isT_no {N : List TN} {dim : Int} (h : ¬ (1 ≤ dim ∧ dim ≤ 8 ∧ 0 < N.length ∧ 1 ≤ (N.getD 0 tn0).sz ∧ (N.getD 0 tn0).sz ≤ 64)) : isT N dim = false := by
  unfold isT
  exact decide_eq_false (fun g => h ⟨g.1, g.2.1, g.2.2.1, g.2.2.2.1, g.2.2.2.2.1⟩)
theorem isT_end {N : List TN} {dim : Int} (h : 1 ≤ dim ∧ dim ≤ 8 ∧ 0 < N.length ∧ 1 ≤ (N.getD 0 tn0).sz ∧ (N.getD 0 tn0).sz ≤ 64) : isT N dim = decide (endR N dim (lgT (N.getD 0 tn0).sz + 1) 0 = N.length) := by
  unfold isT
  rw [decide_eq_decide]
  exact ⟨fun g => g.2.2.2.2.2, fun g => ⟨h.1, h.2.1, h.2.2.1, h.2.2.2.1, h.2.2.2.2, g⟩⟩
end Go.Proofs.Ytdcemcpcjdkpjaa
