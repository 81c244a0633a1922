/- The contract of copseref01.Log. -/
import Derived.Test.YtdcemcpcjdkpjaaBase
namespace Go.Proofs.Ytdcemcpcjdkpjaa
open Go.RowKit

theorem pow_s (k : Nat) : (2 : Int) ^ (k + 1) = 2 ^ k * 2 := Int.pow_succ 2 k
end Go.Proofs.Ytdcemcpcjdkpjaa
