import Derived.Test.YtdcemcpcjdkpjaaTreeF

/-! Layer 10: the reference's Same. -/
namespace Go.Proofs.Ytdcemcpcjdkpjaa
open Go.RowKit
set_option linter.unusedVariables false
set_option linter.unusedSimpArgs false

end Go.Proofs.Ytdcemcpcjdkpjaa
