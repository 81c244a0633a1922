import Derived.Test.YtdcemcpcjdkpjaaTreeK

/-! Layer 10: tree.Leaf. -/
namespace Go.Proofs.Ytdcemcpcjdkpjaa
open Go.RowKit
set_option linter.unusedVariables false
set_option linter.unusedSimpArgs false

/-- the answer of Leaf: the leaf, its depth, the error -/
def leafT (N : List TN) (dim : Int) (x : List Int) : Int × Int × Int :=
  if isT N dim = true then (if isV x dim = true then (((dnT N x N.length 0).1 : Int), ((dnT N x N.length 0).2 : Int), 0) else (0, 0, 80)) else (0, 0, 100)
end Go.Proofs.Ytdcemcpcjdkpjaa
