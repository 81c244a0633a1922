/- Contracts of num.of, product, plus, number, Mul: numbers of three words. -/
import Derived.Test.YtbnpbflndnjmcaaNumX
import Derived.StillTailTactics
import Derived.Deep.RegionHeld3
import Derived.Deep.RegionWith
import Derived.BigRegion
import Derived.Deep.DeepCutAuto
import Derived.Deep.CutRange
import Derived.Deep.CutBlock
namespace Go.Proofs.Ytbnpbflndnjmcaa
open Go.RowKit

/-- three words -/
def L3 (x y z : Int) : Value := .agg #[.int .u64 x, .int .u64 y, .int .u64 z]
/-- a number in two's complement, of three words -/
def twos (n : Int) : Value := .agg #[.int .u64 (n % 18446744073709551616), .int .u64 (n / 18446744073709551616 % 18446744073709551616), .int .u64 (n / 340282366920938463463374607431768211456 % 18446744073709551616)]

/-- all ones for a number below 0, else 0 -/
def sgn (a : Int) : Int := if a < 0 then 18446744073709551615 else 0
theorem sgn_u64 (a : Int) : U64 (sgn a) := by unfold sgn U64; split <;> omega
theorem u64_mod (a : Int) : U64 (a % 18446744073709551616) := by unfold U64; omega

end Go.Proofs.Ytbnpbflndnjmcaa
