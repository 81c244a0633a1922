/- The contract of copseref02.Cmp. -/
import Derived.Test.YtaeodkpkgbjaeaaWideB
import Derived.Test.YtaeodkpkgbjaeaaBigs
namespace Go.Proofs.Ytaeodkpkgbjaeaa
open Go.RowKit

theorem digs_wv (h l : Int) (hh : U64 h) (hl : U64 l) : (digs (wv h l)).length ≤ 8 ∧ 0 ≤ wv h l := by
  have : wv h l = h * 18446744073709551616 + l := rfl
  refine ⟨digs_len _ 8 (by unfold U64 at hh hl; unfold pw; omega), by unfold U64 at hh hl; omega⟩

end Go.Proofs.Ytaeodkpkgbjaeaa
