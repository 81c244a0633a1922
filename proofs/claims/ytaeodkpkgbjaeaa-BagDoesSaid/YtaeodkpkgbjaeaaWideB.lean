/- Contracts of copseref02: turn64 and Big: the digits of a wide number. -/
import Derived.Test.YtaeodkpkgbjaeaaBigs
import Derived.Test.YtaeodkpkgbjaeaaWideA
namespace Go.Proofs.Ytaeodkpkgbjaeaa
open Go.RowKit

theorem digs_turn : digs 18446744073709551616 = [0, 0, 0, 0, 1] := by
  have h : val [0, 0, 0, 0, 1] = 18446744073709551616 := by simp [val]
  rw [← h]
  exact digs_val (by intro d hd; simp only [List.mem_cons, List.not_mem_nil, or_false] at hd; omega) (.inr (by simp))
end Go.Proofs.Ytaeodkpkgbjaeaa
