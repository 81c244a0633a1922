/- The contract of wide.Text. -/
import Derived.Test.YtndofhcnjmbfeaaDoorWideE
import Derived.Test.YtndofhcnjmbfeaaDoorWideA
import Derived.Test.YtndofhcnjmbfeaaDoorBase
import Derived.Test.YtndofhcnjmbfeaaDoorBigs
import Derived.Laws.IdiomStrings
import Derived.IntWalk
namespace Go.Proofs.YtndofhcnjmbfeaaDoor
open Go.RowKit

/-- the digits of a number -/
def txt (n : Nat) : List UInt8 := if n < 10 then [UInt8.ofNat (48 + n)] else txt (n / 10) ++ [UInt8.ofNat (48 + n % 10)]
  termination_by n
  decreasing_by omega
theorem txt_small {n : Nat} (h : n < 10) : txt n = [UInt8.ofNat (48 + n)] := by rw [txt, if_pos h]
theorem txt_big {n : Nat} (h : ¬ n < 10) : txt n = txt (n / 10) ++ [UInt8.ofNat (48 + n % 10)] := by rw [txt, if_neg h]

end Go.Proofs.YtndofhcnjmbfeaaDoor
