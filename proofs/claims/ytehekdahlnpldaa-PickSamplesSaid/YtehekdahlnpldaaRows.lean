/-
  No cell of these rows narrows 'for every input' (looked for: loops, veiled, ifaces, maps, wideKeys, modest, calm, conditions, laid).
  DERIVED. THE GIVEN ROWS OF THIS SEAT. 14 by the template 'for every input the law returns true; each argument reads behind the call as it read before'; 0 by the template 'total and deterministic' (their statements: YtehekdahlnpldaaTotals.lean).
  GIVEN WITH THE SEED: the statements are not yours to turn. If you find one false, say at which input.
  Laid BY PROGRAM, IN A SANDBOX (cutbox-rows.mjs): the forced cells as the released guide's own fill.sh prints them over the translation 21ef281189f4f9e9… (all of the seat's roots in one cut). By AI agents, Wed Nov 11 2026. No macro, syntax, notation, axiom, sorry.
-/
import Derived.Test.YtehekdahlnpldaaChecked
import GoSem.Claim
import GoSem.ClaimJoined
import GoSem.ClaimMapViews
import Derived.JoinedTies
import Derived.KernelRfl
namespace Go.Proofs.Ytehekdahlnpldaa
/- THE CELL 'sum', in the pinned program and in every row, IS THE sha256 OF THE DUMP (.gsa) THAT YtehekdahlnpldaaProg.lean LOADS. Nothing in Lean hashes anything: it is a label: what it is worth is what the hold of that sum in a sandbox is worth. -/
noncomputable def Try.pinned : Pinned := { name := "ytehekdahlnpldaa", sum := "21ef281189f4f9e9b77ad10dca32be43bcde86740fa02257d9c67965a00b1ae2", checked := Try.checked }
namespace Rows
def none {H : Type} : Left H := { results := [], args := [] }

/-- 'copselaw07.PickSamples': WHATEVER THE INPUT: true; the input reads as it did. -/
def pickSamplesSpec : ChangeSpec := { name := "pickSamples", fn := fun _ => fun
  | [d1, d2, d3, d4, d5] => { results := [.lit (.bool true)], args := [d1, d2, d3, d4, d5] }
  | _ => none }
def pickSamplesRow : OpenClaim := { program := "ytehekdahlnpldaa", sum := "21ef281189f4f9e9b77ad10dca32be43bcde86740fa02257d9c67965a00b1ae2", func := "copse/copselaw07.PickSamples", spec := "pickSamples", unfollowed := true, recurses := true, apart := false }
def PickSamplesSaid : Prop := pickSamplesRow.holds Try.pinned (OpenSpec.ofChange pickSamplesSpec)

/-- ITS FALSE NEIGHBOUR: 'it returns false'. Refute it at one input. -/
def pickSamplesWrong : ChangeSpec := { name := "pickSamples", fn := fun _ => fun
  | [d1, d2, d3, d4, d5] => { results := [.lit (.bool false)], args := [d1, d2, d3, d4, d5] }
  | _ => none }
def PickSamplesWrongFalsely : Prop := pickSamplesRow.holds Try.pinned (OpenSpec.ofChange pickSamplesWrong)

/-- 'copselaw07.PickBack': WHATEVER THE INPUT: true; the input reads as it did. -/
def pickBackSpec : ChangeSpec := { name := "pickBack", fn := fun _ => fun
  | [d1, d2, d3] => { results := [.lit (.bool true)], args := [d1, d2, d3] }
  | _ => none }
def pickBackRow : OpenClaim := { program := "ytehekdahlnpldaa", sum := "21ef281189f4f9e9b77ad10dca32be43bcde86740fa02257d9c67965a00b1ae2", func := "copse/copselaw07.PickBack", spec := "pickBack", unfollowed := true, recurses := true, apart := false }
def PickBackSaid : Prop := pickBackRow.holds Try.pinned (OpenSpec.ofChange pickBackSpec)

/-- ITS FALSE NEIGHBOUR: 'it returns false'. Refute it at one input. -/
def pickBackWrong : ChangeSpec := { name := "pickBack", fn := fun _ => fun
  | [d1, d2, d3] => { results := [.lit (.bool false)], args := [d1, d2, d3] }
  | _ => none }
def PickBackWrongFalsely : Prop := pickBackRow.holds Try.pinned (OpenSpec.ofChange pickBackWrong)

/-- 'copselaw07.PickCoefs': WHATEVER THE INPUT: true; the input reads as it did. -/
def pickCoefsSpec : ChangeSpec := { name := "pickCoefs", fn := fun _ => fun
  | [d1, d2, d3, d4] => { results := [.lit (.bool true)], args := [d1, d2, d3, d4] }
  | _ => none }
def pickCoefsRow : OpenClaim := { program := "ytehekdahlnpldaa", sum := "21ef281189f4f9e9b77ad10dca32be43bcde86740fa02257d9c67965a00b1ae2", func := "copse/copselaw07.PickCoefs", spec := "pickCoefs", unfollowed := true, recurses := true, apart := false }
def PickCoefsSaid : Prop := pickCoefsRow.holds Try.pinned (OpenSpec.ofChange pickCoefsSpec)

/-- ITS FALSE NEIGHBOUR: 'it returns false'. Refute it at one input. -/
def pickCoefsWrong : ChangeSpec := { name := "pickCoefs", fn := fun _ => fun
  | [d1, d2, d3, d4] => { results := [.lit (.bool false)], args := [d1, d2, d3, d4] }
  | _ => none }
def PickCoefsWrongFalsely : Prop := pickCoefsRow.holds Try.pinned (OpenSpec.ofChange pickCoefsWrong)

/-- 'copselaw07.PickWeighs': WHATEVER THE INPUT: true; the input reads as it did. -/
def pickWeighsSpec : ChangeSpec := { name := "pickWeighs", fn := fun _ => fun
  | [d1, d2, d3, d4] => { results := [.lit (.bool true)], args := [d1, d2, d3, d4] }
  | _ => none }
def pickWeighsRow : OpenClaim := { program := "ytehekdahlnpldaa", sum := "21ef281189f4f9e9b77ad10dca32be43bcde86740fa02257d9c67965a00b1ae2", func := "copse/copselaw07.PickWeighs", spec := "pickWeighs", unfollowed := true, recurses := true, apart := false }
def PickWeighsSaid : Prop := pickWeighsRow.holds Try.pinned (OpenSpec.ofChange pickWeighsSpec)

/-- ITS FALSE NEIGHBOUR: 'it returns false'. Refute it at one input. -/
def pickWeighsWrong : ChangeSpec := { name := "pickWeighs", fn := fun _ => fun
  | [d1, d2, d3, d4] => { results := [.lit (.bool false)], args := [d1, d2, d3, d4] }
  | _ => none }
def PickWeighsWrongFalsely : Prop := pickWeighsRow.holds Try.pinned (OpenSpec.ofChange pickWeighsWrong)

/-- 'copselaw10.TreeIs': WHATEVER THE INPUT: true; the input reads as it did. -/
def treeIsSpec : ChangeSpec := { name := "treeIs", fn := fun _ => fun
  | [d1, d2] => { results := [.lit (.bool true)], args := [d1, d2] }
  | _ => none }
def treeIsRow : OpenClaim := { program := "ytehekdahlnpldaa", sum := "21ef281189f4f9e9b77ad10dca32be43bcde86740fa02257d9c67965a00b1ae2", func := "copse/copselaw10.TreeIs", spec := "treeIs", unfollowed := true, recurses := true, apart := false }
def TreeIsSaid : Prop := treeIsRow.holds Try.pinned (OpenSpec.ofChange treeIsSpec)

/-- ITS FALSE NEIGHBOUR: 'it returns false'. Refute it at one input. -/
def treeIsWrong : ChangeSpec := { name := "treeIs", fn := fun _ => fun
  | [d1, d2] => { results := [.lit (.bool false)], args := [d1, d2] }
  | _ => none }
def TreeIsWrongFalsely : Prop := treeIsRow.holds Try.pinned (OpenSpec.ofChange treeIsWrong)

/-- 'copselaw10.TreeGrows': WHATEVER THE INPUT: true; the input reads as it did. -/
def treeGrowsSpec : ChangeSpec := { name := "treeGrows", fn := fun _ => fun
  | [d1, d2, d3, d4, d5] => { results := [.lit (.bool true)], args := [d1, d2, d3, d4, d5] }
  | _ => none }
def treeGrowsRow : OpenClaim := { program := "ytehekdahlnpldaa", sum := "21ef281189f4f9e9b77ad10dca32be43bcde86740fa02257d9c67965a00b1ae2", func := "copse/copselaw10.TreeGrows", spec := "treeGrows", unfollowed := true, recurses := true, apart := false }
def TreeGrowsSaid : Prop := treeGrowsRow.holds Try.pinned (OpenSpec.ofChange treeGrowsSpec)

/-- ITS FALSE NEIGHBOUR: 'it returns false'. Refute it at one input. -/
def treeGrowsWrong : ChangeSpec := { name := "treeGrows", fn := fun _ => fun
  | [d1, d2, d3, d4, d5] => { results := [.lit (.bool false)], args := [d1, d2, d3, d4, d5] }
  | _ => none }
def TreeGrowsWrongFalsely : Prop := treeGrowsRow.holds Try.pinned (OpenSpec.ofChange treeGrowsWrong)

/-- 'copselaw10.TreeBounds': WHATEVER THE INPUT: true; the input reads as it did. -/
def treeBoundsSpec : ChangeSpec := { name := "treeBounds", fn := fun _ => fun
  | [d1, d2, d3, d4, d5] => { results := [.lit (.bool true)], args := [d1, d2, d3, d4, d5] }
  | _ => none }
def treeBoundsRow : OpenClaim := { program := "ytehekdahlnpldaa", sum := "21ef281189f4f9e9b77ad10dca32be43bcde86740fa02257d9c67965a00b1ae2", func := "copse/copselaw10.TreeBounds", spec := "treeBounds", unfollowed := true, recurses := true, apart := false }
def TreeBoundsSaid : Prop := treeBoundsRow.holds Try.pinned (OpenSpec.ofChange treeBoundsSpec)

/-- ITS FALSE NEIGHBOUR: 'it returns false'. Refute it at one input. -/
def treeBoundsWrong : ChangeSpec := { name := "treeBounds", fn := fun _ => fun
  | [d1, d2, d3, d4, d5] => { results := [.lit (.bool false)], args := [d1, d2, d3, d4, d5] }
  | _ => none }
def TreeBoundsWrongFalsely : Prop := treeBoundsRow.holds Try.pinned (OpenSpec.ofChange treeBoundsWrong)

/-- 'copselaw10.TreeMost': WHATEVER THE INPUT: true; the input reads as it did. -/
def treeMostSpec : ChangeSpec := { name := "treeMost", fn := fun _ => fun
  | [d1, d2, d3, d4] => { results := [.lit (.bool true)], args := [d1, d2, d3, d4] }
  | _ => none }
def treeMostRow : OpenClaim := { program := "ytehekdahlnpldaa", sum := "21ef281189f4f9e9b77ad10dca32be43bcde86740fa02257d9c67965a00b1ae2", func := "copse/copselaw10.TreeMost", spec := "treeMost", unfollowed := true, recurses := true, apart := false }
def TreeMostSaid : Prop := treeMostRow.holds Try.pinned (OpenSpec.ofChange treeMostSpec)

/-- ITS FALSE NEIGHBOUR: 'it returns false'. Refute it at one input. -/
def treeMostWrong : ChangeSpec := { name := "treeMost", fn := fun _ => fun
  | [d1, d2, d3, d4] => { results := [.lit (.bool false)], args := [d1, d2, d3, d4] }
  | _ => none }
def TreeMostWrongFalsely : Prop := treeMostRow.holds Try.pinned (OpenSpec.ofChange treeMostWrong)

/-- 'copselaw10.TreeHolds': WHATEVER THE INPUT: true; the input reads as it did. -/
def treeHoldsSpec : ChangeSpec := { name := "treeHolds", fn := fun _ => fun
  | [d1, d2, d3, d4, d5] => { results := [.lit (.bool true)], args := [d1, d2, d3, d4, d5] }
  | _ => none }
def treeHoldsRow : OpenClaim := { program := "ytehekdahlnpldaa", sum := "21ef281189f4f9e9b77ad10dca32be43bcde86740fa02257d9c67965a00b1ae2", func := "copse/copselaw10.TreeHolds", spec := "treeHolds", unfollowed := true, recurses := true, apart := false }
def TreeHoldsSaid : Prop := treeHoldsRow.holds Try.pinned (OpenSpec.ofChange treeHoldsSpec)

/-- ITS FALSE NEIGHBOUR: 'it returns false'. Refute it at one input. -/
def treeHoldsWrong : ChangeSpec := { name := "treeHolds", fn := fun _ => fun
  | [d1, d2, d3, d4, d5] => { results := [.lit (.bool false)], args := [d1, d2, d3, d4, d5] }
  | _ => none }
def TreeHoldsWrongFalsely : Prop := treeHoldsRow.holds Try.pinned (OpenSpec.ofChange treeHoldsWrong)

/-- 'copselaw10.TreeLeaves': WHATEVER THE INPUT: true; the input reads as it did. -/
def treeLeavesSpec : ChangeSpec := { name := "treeLeaves", fn := fun _ => fun
  | [d1, d2] => { results := [.lit (.bool true)], args := [d1, d2] }
  | _ => none }
def treeLeavesRow : OpenClaim := { program := "ytehekdahlnpldaa", sum := "21ef281189f4f9e9b77ad10dca32be43bcde86740fa02257d9c67965a00b1ae2", func := "copse/copselaw10.TreeLeaves", spec := "treeLeaves", unfollowed := true, recurses := true, apart := false }
def TreeLeavesSaid : Prop := treeLeavesRow.holds Try.pinned (OpenSpec.ofChange treeLeavesSpec)

/-- ITS FALSE NEIGHBOUR: 'it returns false'. Refute it at one input. -/
def treeLeavesWrong : ChangeSpec := { name := "treeLeaves", fn := fun _ => fun
  | [d1, d2] => { results := [.lit (.bool false)], args := [d1, d2] }
  | _ => none }
def TreeLeavesWrongFalsely : Prop := treeLeavesRow.holds Try.pinned (OpenSpec.ofChange treeLeavesWrong)

/-- 'copselaw12.PathTells': WHATEVER THE INPUT: true; the input reads as it did. -/
def pathTellsSpec : ChangeSpec := { name := "pathTells", fn := fun _ => fun
  | [d1, d2] => { results := [.lit (.bool true)], args := [d1, d2] }
  | _ => none }
def pathTellsRow : OpenClaim := { program := "ytehekdahlnpldaa", sum := "21ef281189f4f9e9b77ad10dca32be43bcde86740fa02257d9c67965a00b1ae2", func := "copse/copselaw12.PathTells", spec := "pathTells", unfollowed := true, recurses := true, apart := false }
def PathTellsSaid : Prop := pathTellsRow.holds Try.pinned (OpenSpec.ofChange pathTellsSpec)

/-- ITS FALSE NEIGHBOUR: 'it returns false'. Refute it at one input. -/
def pathTellsWrong : ChangeSpec := { name := "pathTells", fn := fun _ => fun
  | [d1, d2] => { results := [.lit (.bool false)], args := [d1, d2] }
  | _ => none }
def PathTellsWrongFalsely : Prop := pathTellsRow.holds Try.pinned (OpenSpec.ofChange pathTellsWrong)

/-- 'copselaw12.PathEnds': WHATEVER THE INPUT: true; the input reads as it did. -/
def pathEndsSpec : ChangeSpec := { name := "pathEnds", fn := fun _ => fun
  | [d1, d2] => { results := [.lit (.bool true)], args := [d1, d2] }
  | _ => none }
def pathEndsRow : OpenClaim := { program := "ytehekdahlnpldaa", sum := "21ef281189f4f9e9b77ad10dca32be43bcde86740fa02257d9c67965a00b1ae2", func := "copse/copselaw12.PathEnds", spec := "pathEnds", unfollowed := true, recurses := true, apart := false }
def PathEndsSaid : Prop := pathEndsRow.holds Try.pinned (OpenSpec.ofChange pathEndsSpec)

/-- ITS FALSE NEIGHBOUR: 'it returns false'. Refute it at one input. -/
def pathEndsWrong : ChangeSpec := { name := "pathEnds", fn := fun _ => fun
  | [d1, d2] => { results := [.lit (.bool false)], args := [d1, d2] }
  | _ => none }
def PathEndsWrongFalsely : Prop := pathEndsRow.holds Try.pinned (OpenSpec.ofChange pathEndsWrong)

/-- 'copselaw12.PathSums': WHATEVER THE INPUT: true; the input reads as it did. -/
def pathSumsSpec : ChangeSpec := { name := "pathSums", fn := fun _ => fun
  | [d1, d2] => { results := [.lit (.bool true)], args := [d1, d2] }
  | _ => none }
def pathSumsRow : OpenClaim := { program := "ytehekdahlnpldaa", sum := "21ef281189f4f9e9b77ad10dca32be43bcde86740fa02257d9c67965a00b1ae2", func := "copse/copselaw12.PathSums", spec := "pathSums", unfollowed := true, recurses := true, apart := false }
def PathSumsSaid : Prop := pathSumsRow.holds Try.pinned (OpenSpec.ofChange pathSumsSpec)

/-- ITS FALSE NEIGHBOUR: 'it returns false'. Refute it at one input. -/
def pathSumsWrong : ChangeSpec := { name := "pathSums", fn := fun _ => fun
  | [d1, d2] => { results := [.lit (.bool false)], args := [d1, d2] }
  | _ => none }
def PathSumsWrongFalsely : Prop := pathSumsRow.holds Try.pinned (OpenSpec.ofChange pathSumsWrong)

/-- 'copselaw12.PathWeighs': WHATEVER THE INPUT: true; the input reads as it did. -/
def pathWeighsSpec : ChangeSpec := { name := "pathWeighs", fn := fun _ => fun
  | [d1, d2, d3, d4, d5] => { results := [.lit (.bool true)], args := [d1, d2, d3, d4, d5] }
  | _ => none }
def pathWeighsRow : OpenClaim := { program := "ytehekdahlnpldaa", sum := "21ef281189f4f9e9b77ad10dca32be43bcde86740fa02257d9c67965a00b1ae2", func := "copse/copselaw12.PathWeighs", spec := "pathWeighs", unfollowed := true, recurses := true, apart := false }
def PathWeighsSaid : Prop := pathWeighsRow.holds Try.pinned (OpenSpec.ofChange pathWeighsSpec)

/-- ITS FALSE NEIGHBOUR: 'it returns false'. Refute it at one input. -/
def pathWeighsWrong : ChangeSpec := { name := "pathWeighs", fn := fun _ => fun
  | [d1, d2, d3, d4, d5] => { results := [.lit (.bool false)], args := [d1, d2, d3, d4, d5] }
  | _ => none }
def PathWeighsWrongFalsely : Prop := pathWeighsRow.holds Try.pinned (OpenSpec.ofChange pathWeighsWrong)

/- THE SECOND FORM. 'bulk': how many values and letters a reading holds, each counted each time it is reached (what is shared counts as often as it is met; a slice's spare places count too). A statement '..UptoSaid' is the law's where the arguments, and the package variables that the reading takes, are together of bulk at most 1048576: NARROWER than '..Said'. Prove '..Said' where nothing that the law and all that it calls make is longer than what came in: it says more and counts as full. Else prove '..UptoSaid'. A law counts once. -/
mutual
def uptoBulk {H : Type} : DataW H → Nat
  | .lit (.string bytes) => bytes.length + 1
  | .lit _ => 1
  | .nil => 1
  | .ptr d => uptoBulk d + 1
  | .slice elems spare => uptoBulkAll elems + uptoBulkAll spare + 1
  | .agg parts => uptoBulkAll parts + 1
  | .iface _ d => uptoBulk d + 1
  | .map entries => uptoBulkEntries entries + 1
  | .held _ => 1
def uptoBulkAll {H : Type} : List (DataW H) → Nat
  | [] => 0
  | d :: r => uptoBulk d + uptoBulkAll r
def uptoBulkEntries {H : Type} : List (Lit × DataW H) → Nat
  | [] => 0
  | x :: r => uptoBulkEntry x + uptoBulkEntries r
def uptoBulkEntry {H : Type} : Lit × DataW H → Nat
  | (.string bytes, d) => bytes.length + uptoBulk d + 1
  | (_, d) => uptoBulk d + 1
 end
def uptoSmall : (H : Type) → List (DataW H) → Bool := fun _ ds => decide (uptoBulkAll ds ≤ 1048576)
def OpenSpec.upto (s : _root_.Go.ChangeSpec) : _root_.Go.OpenSpec := { _root_.Go.OpenSpec.ofChange s with cond := some uptoSmall }

/-- 'copselaw07.PickSamples', WHERE WHAT IT READS IS OF BULK AT MOST 1048576: true; the input reads as it did. -/
def pickSamplesUptoRow : OpenClaim := { program := "ytehekdahlnpldaa", sum := "21ef281189f4f9e9b77ad10dca32be43bcde86740fa02257d9c67965a00b1ae2", func := "copse/copselaw07.PickSamples", spec := "pickSamples", unfollowed := true, recurses := true, apart := false, narrowed := true }
def PickSamplesUptoSaid : Prop := pickSamplesUptoRow.holds Try.pinned (OpenSpec.upto pickSamplesSpec)

/-- 'copselaw07.PickBack', WHERE WHAT IT READS IS OF BULK AT MOST 1048576: true; the input reads as it did. -/
def pickBackUptoRow : OpenClaim := { program := "ytehekdahlnpldaa", sum := "21ef281189f4f9e9b77ad10dca32be43bcde86740fa02257d9c67965a00b1ae2", func := "copse/copselaw07.PickBack", spec := "pickBack", unfollowed := true, recurses := true, apart := false, narrowed := true }
def PickBackUptoSaid : Prop := pickBackUptoRow.holds Try.pinned (OpenSpec.upto pickBackSpec)

/-- 'copselaw07.PickCoefs', WHERE WHAT IT READS IS OF BULK AT MOST 1048576: true; the input reads as it did. -/
def pickCoefsUptoRow : OpenClaim := { program := "ytehekdahlnpldaa", sum := "21ef281189f4f9e9b77ad10dca32be43bcde86740fa02257d9c67965a00b1ae2", func := "copse/copselaw07.PickCoefs", spec := "pickCoefs", unfollowed := true, recurses := true, apart := false, narrowed := true }
def PickCoefsUptoSaid : Prop := pickCoefsUptoRow.holds Try.pinned (OpenSpec.upto pickCoefsSpec)

/-- 'copselaw07.PickWeighs', WHERE WHAT IT READS IS OF BULK AT MOST 1048576: true; the input reads as it did. -/
def pickWeighsUptoRow : OpenClaim := { program := "ytehekdahlnpldaa", sum := "21ef281189f4f9e9b77ad10dca32be43bcde86740fa02257d9c67965a00b1ae2", func := "copse/copselaw07.PickWeighs", spec := "pickWeighs", unfollowed := true, recurses := true, apart := false, narrowed := true }
def PickWeighsUptoSaid : Prop := pickWeighsUptoRow.holds Try.pinned (OpenSpec.upto pickWeighsSpec)

/-- 'copselaw10.TreeIs', WHERE WHAT IT READS IS OF BULK AT MOST 1048576: true; the input reads as it did. -/
def treeIsUptoRow : OpenClaim := { program := "ytehekdahlnpldaa", sum := "21ef281189f4f9e9b77ad10dca32be43bcde86740fa02257d9c67965a00b1ae2", func := "copse/copselaw10.TreeIs", spec := "treeIs", unfollowed := true, recurses := true, apart := false, narrowed := true }
def TreeIsUptoSaid : Prop := treeIsUptoRow.holds Try.pinned (OpenSpec.upto treeIsSpec)

/-- 'copselaw10.TreeGrows', WHERE WHAT IT READS IS OF BULK AT MOST 1048576: true; the input reads as it did. -/
def treeGrowsUptoRow : OpenClaim := { program := "ytehekdahlnpldaa", sum := "21ef281189f4f9e9b77ad10dca32be43bcde86740fa02257d9c67965a00b1ae2", func := "copse/copselaw10.TreeGrows", spec := "treeGrows", unfollowed := true, recurses := true, apart := false, narrowed := true }
def TreeGrowsUptoSaid : Prop := treeGrowsUptoRow.holds Try.pinned (OpenSpec.upto treeGrowsSpec)

/-- 'copselaw10.TreeBounds', WHERE WHAT IT READS IS OF BULK AT MOST 1048576: true; the input reads as it did. -/
def treeBoundsUptoRow : OpenClaim := { program := "ytehekdahlnpldaa", sum := "21ef281189f4f9e9b77ad10dca32be43bcde86740fa02257d9c67965a00b1ae2", func := "copse/copselaw10.TreeBounds", spec := "treeBounds", unfollowed := true, recurses := true, apart := false, narrowed := true }
def TreeBoundsUptoSaid : Prop := treeBoundsUptoRow.holds Try.pinned (OpenSpec.upto treeBoundsSpec)

/-- 'copselaw10.TreeMost', WHERE WHAT IT READS IS OF BULK AT MOST 1048576: true; the input reads as it did. -/
def treeMostUptoRow : OpenClaim := { program := "ytehekdahlnpldaa", sum := "21ef281189f4f9e9b77ad10dca32be43bcde86740fa02257d9c67965a00b1ae2", func := "copse/copselaw10.TreeMost", spec := "treeMost", unfollowed := true, recurses := true, apart := false, narrowed := true }
def TreeMostUptoSaid : Prop := treeMostUptoRow.holds Try.pinned (OpenSpec.upto treeMostSpec)

/-- 'copselaw10.TreeHolds', WHERE WHAT IT READS IS OF BULK AT MOST 1048576: true; the input reads as it did. -/
def treeHoldsUptoRow : OpenClaim := { program := "ytehekdahlnpldaa", sum := "21ef281189f4f9e9b77ad10dca32be43bcde86740fa02257d9c67965a00b1ae2", func := "copse/copselaw10.TreeHolds", spec := "treeHolds", unfollowed := true, recurses := true, apart := false, narrowed := true }
def TreeHoldsUptoSaid : Prop := treeHoldsUptoRow.holds Try.pinned (OpenSpec.upto treeHoldsSpec)

/-- 'copselaw10.TreeLeaves', WHERE WHAT IT READS IS OF BULK AT MOST 1048576: true; the input reads as it did. -/
def treeLeavesUptoRow : OpenClaim := { program := "ytehekdahlnpldaa", sum := "21ef281189f4f9e9b77ad10dca32be43bcde86740fa02257d9c67965a00b1ae2", func := "copse/copselaw10.TreeLeaves", spec := "treeLeaves", unfollowed := true, recurses := true, apart := false, narrowed := true }
def TreeLeavesUptoSaid : Prop := treeLeavesUptoRow.holds Try.pinned (OpenSpec.upto treeLeavesSpec)

/-- 'copselaw12.PathTells', WHERE WHAT IT READS IS OF BULK AT MOST 1048576: true; the input reads as it did. -/
def pathTellsUptoRow : OpenClaim := { program := "ytehekdahlnpldaa", sum := "21ef281189f4f9e9b77ad10dca32be43bcde86740fa02257d9c67965a00b1ae2", func := "copse/copselaw12.PathTells", spec := "pathTells", unfollowed := true, recurses := true, apart := false, narrowed := true }
def PathTellsUptoSaid : Prop := pathTellsUptoRow.holds Try.pinned (OpenSpec.upto pathTellsSpec)

/-- 'copselaw12.PathEnds', WHERE WHAT IT READS IS OF BULK AT MOST 1048576: true; the input reads as it did. -/
def pathEndsUptoRow : OpenClaim := { program := "ytehekdahlnpldaa", sum := "21ef281189f4f9e9b77ad10dca32be43bcde86740fa02257d9c67965a00b1ae2", func := "copse/copselaw12.PathEnds", spec := "pathEnds", unfollowed := true, recurses := true, apart := false, narrowed := true }
def PathEndsUptoSaid : Prop := pathEndsUptoRow.holds Try.pinned (OpenSpec.upto pathEndsSpec)

/-- 'copselaw12.PathSums', WHERE WHAT IT READS IS OF BULK AT MOST 1048576: true; the input reads as it did. -/
def pathSumsUptoRow : OpenClaim := { program := "ytehekdahlnpldaa", sum := "21ef281189f4f9e9b77ad10dca32be43bcde86740fa02257d9c67965a00b1ae2", func := "copse/copselaw12.PathSums", spec := "pathSums", unfollowed := true, recurses := true, apart := false, narrowed := true }
def PathSumsUptoSaid : Prop := pathSumsUptoRow.holds Try.pinned (OpenSpec.upto pathSumsSpec)

/-- 'copselaw12.PathWeighs', WHERE WHAT IT READS IS OF BULK AT MOST 1048576: true; the input reads as it did. -/
def pathWeighsUptoRow : OpenClaim := { program := "ytehekdahlnpldaa", sum := "21ef281189f4f9e9b77ad10dca32be43bcde86740fa02257d9c67965a00b1ae2", func := "copse/copselaw12.PathWeighs", spec := "pathWeighs", unfollowed := true, recurses := true, apart := false, narrowed := true }
def PathWeighsUptoSaid : Prop := pathWeighsUptoRow.holds Try.pinned (OpenSpec.upto pathWeighsSpec)

end Rows
end Go.Proofs.Ytehekdahlnpldaa
