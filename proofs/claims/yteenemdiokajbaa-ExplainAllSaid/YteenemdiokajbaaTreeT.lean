import Derived.Test.YteenemdiokajbaaTreeF

/-! Layer 10: the reference's Same. -/
namespace Go.Proofs.Yteenemdiokajbaa
open Go.RowKit
set_option linter.unusedVariables false
set_option linter.unusedSimpArgs false

end Go.Proofs.Yteenemdiokajbaa
