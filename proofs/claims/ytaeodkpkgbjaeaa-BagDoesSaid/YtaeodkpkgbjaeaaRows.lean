/-
  No cell of these rows narrows 'for every input' (looked for: loops, veiled, ifaces, maps, wideKeys, modest, calm, conditions, laid).
  DERIVED. THE GIVEN ROWS OF THIS SEAT. 13 by the template 'for every input the law returns true; each argument reads behind the call as it read before'; 0 by the template 'total and deterministic' (their statements: YtaeodkpkgbjaeaaTotals.lean).
  GIVEN WITH THE SEED: the statements are not yours to turn. If you find one false, say at which input.
  Laid BY PROGRAM, IN A SANDBOX (cutbox-rows.mjs): the forced cells as the released guide's own fill.sh prints them over the translation f3c50d7f7aea12a0… (all of the seat's roots in one cut). By AI agents, Wed Nov 11 2026. No macro, syntax, notation, axiom, sorry.
-/
import Derived.Test.YtaeodkpkgbjaeaaChecked
import GoSem.Claim
import GoSem.ClaimJoined
import GoSem.ClaimMapViews
import Derived.JoinedTies
import Derived.KernelRfl
namespace Go.Proofs.Ytaeodkpkgbjaeaa
/- THE CELL 'sum', in the pinned program and in every row, IS THE sha256 OF THE DUMP (.gsa) THAT YtaeodkpkgbjaeaaProg.lean LOADS. Nothing in Lean hashes anything: it is a label: what it is worth is what the hold of that sum in a sandbox is worth. -/
noncomputable def Try.pinned : Pinned := { name := "ytaeodkpkgbjaeaa", sum := "f3c50d7f7aea12a09434550758fd942a300a7901a1095de2b53453bc59f2faa3", checked := Try.checked }
namespace Rows
def none {H : Type} : Left H := { results := [], args := [] }

/-- 'copselaw18.BagDoes': WHATEVER THE INPUT: true; the input reads as it did. -/
def bagDoesSpec : ChangeSpec := { name := "bagDoes", fn := fun _ => fun
  | [d1, d2, d3] => { results := [.lit (.bool true)], args := [d1, d2, d3] }
  | _ => none }
def bagDoesRow : OpenClaim := { program := "ytaeodkpkgbjaeaa", sum := "f3c50d7f7aea12a09434550758fd942a300a7901a1095de2b53453bc59f2faa3", func := "copse/copselaw18.BagDoes", spec := "bagDoes", inPlace := ["slices.overlaps[[]copse/api.Score]"], unfollowed := true, recurses := true, apart := false }
def BagDoesSaid : Prop := bagDoesRow.holds Try.pinned (OpenSpec.ofChange bagDoesSpec)

/-- ITS FALSE NEIGHBOUR: 'it returns false'. Refute it at one input. -/
def bagDoesWrong : ChangeSpec := { name := "bagDoes", fn := fun _ => fun
  | [d1, d2, d3] => { results := [.lit (.bool false)], args := [d1, d2, d3] }
  | _ => none }
def BagDoesWrongFalsely : Prop := bagDoesRow.holds Try.pinned (OpenSpec.ofChange bagDoesWrong)

/-- 'copselaw18.BagOrders': WHATEVER THE INPUT: true; the input reads as it did. -/
def bagOrdersSpec : ChangeSpec := { name := "bagOrders", fn := fun _ => fun
  | [d1, d2] => { results := [.lit (.bool true)], args := [d1, d2] }
  | _ => none }
def bagOrdersRow : OpenClaim := { program := "ytaeodkpkgbjaeaa", sum := "f3c50d7f7aea12a09434550758fd942a300a7901a1095de2b53453bc59f2faa3", func := "copse/copselaw18.BagOrders", spec := "bagOrders", inPlace := ["slices.overlaps[[]copse/api.Score]"], unfollowed := true, recurses := true, apart := false }
def BagOrdersSaid : Prop := bagOrdersRow.holds Try.pinned (OpenSpec.ofChange bagOrdersSpec)

/-- ITS FALSE NEIGHBOUR: 'it returns false'. Refute it at one input. -/
def bagOrdersWrong : ChangeSpec := { name := "bagOrders", fn := fun _ => fun
  | [d1, d2] => { results := [.lit (.bool false)], args := [d1, d2] }
  | _ => none }
def BagOrdersWrongFalsely : Prop := bagOrdersRow.holds Try.pinned (OpenSpec.ofChange bagOrdersWrong)

/-- 'copselaw18.BagRanks': WHATEVER THE INPUT: true; the input reads as it did. -/
def bagRanksSpec : ChangeSpec := { name := "bagRanks", fn := fun _ => fun
  | [d] => { results := [.lit (.bool true)], args := [d] }
  | _ => none }
def bagRanksRow : OpenClaim := { program := "ytaeodkpkgbjaeaa", sum := "f3c50d7f7aea12a09434550758fd942a300a7901a1095de2b53453bc59f2faa3", func := "copse/copselaw18.BagRanks", spec := "bagRanks", inPlace := ["slices.overlaps[[]copse/api.Score]"], unfollowed := true, recurses := true, apart := false }
def BagRanksSaid : Prop := bagRanksRow.holds Try.pinned (OpenSpec.ofChange bagRanksSpec)

/-- ITS FALSE NEIGHBOUR: 'it returns false'. Refute it at one input. -/
def bagRanksWrong : ChangeSpec := { name := "bagRanks", fn := fun _ => fun
  | [d] => { results := [.lit (.bool false)], args := [d] }
  | _ => none }
def BagRanksWrongFalsely : Prop := bagRanksRow.holds Try.pinned (OpenSpec.ofChange bagRanksWrong)

/-- 'copselaw19.QuantLines': WHATEVER THE INPUT: true; the input reads as it did. -/
def quantLinesSpec : ChangeSpec := { name := "quantLines", fn := fun _ => fun
  | [d1, d2, d3] => { results := [.lit (.bool true)], args := [d1, d2, d3] }
  | _ => none }
def quantLinesRow : OpenClaim := { program := "ytaeodkpkgbjaeaa", sum := "f3c50d7f7aea12a09434550758fd942a300a7901a1095de2b53453bc59f2faa3", func := "copse/copselaw19.QuantLines", spec := "quantLines", inPlace := ["slices.overlaps[[]copse/api.Score]"], unfollowed := true, recurses := true, apart := false }
def QuantLinesSaid : Prop := quantLinesRow.holds Try.pinned (OpenSpec.ofChange quantLinesSpec)

/-- ITS FALSE NEIGHBOUR: 'it returns false'. Refute it at one input. -/
def quantLinesWrong : ChangeSpec := { name := "quantLines", fn := fun _ => fun
  | [d1, d2, d3] => { results := [.lit (.bool false)], args := [d1, d2, d3] }
  | _ => none }
def QuantLinesWrongFalsely : Prop := quantLinesRow.holds Try.pinned (OpenSpec.ofChange quantLinesWrong)

/-- 'copselaw23.WoodTrees': WHATEVER THE INPUT: true; the input reads as it did. -/
def woodTreesSpec : ChangeSpec := { name := "woodTrees", fn := fun _ => fun
  | [d1, d2] => { results := [.lit (.bool true)], args := [d1, d2] }
  | _ => none }
def woodTreesRow : OpenClaim := { program := "ytaeodkpkgbjaeaa", sum := "f3c50d7f7aea12a09434550758fd942a300a7901a1095de2b53453bc59f2faa3", func := "copse/copselaw23.WoodTrees", spec := "woodTrees", unfollowed := true, recurses := true, apart := false }
def WoodTreesSaid : Prop := woodTreesRow.holds Try.pinned (OpenSpec.ofChange woodTreesSpec)

/-- ITS FALSE NEIGHBOUR: 'it returns false'. Refute it at one input. -/
def woodTreesWrong : ChangeSpec := { name := "woodTrees", fn := fun _ => fun
  | [d1, d2] => { results := [.lit (.bool false)], args := [d1, d2] }
  | _ => none }
def WoodTreesWrongFalsely : Prop := woodTreesRow.holds Try.pinned (OpenSpec.ofChange woodTreesWrong)

/-- 'copselaw23.WoodReads': WHATEVER THE INPUT: true; the input reads as it did. -/
def woodReadsSpec : ChangeSpec := { name := "woodReads", fn := fun _ => fun
  | [d] => { results := [.lit (.bool true)], args := [d] }
  | _ => none }
def woodReadsRow : OpenClaim := { program := "ytaeodkpkgbjaeaa", sum := "f3c50d7f7aea12a09434550758fd942a300a7901a1095de2b53453bc59f2faa3", func := "copse/copselaw23.WoodReads", spec := "woodReads", unfollowed := true, recurses := true, apart := false }
def WoodReadsSaid : Prop := woodReadsRow.holds Try.pinned (OpenSpec.ofChange woodReadsSpec)

/-- ITS FALSE NEIGHBOUR: 'it returns false'. Refute it at one input. -/
def woodReadsWrong : ChangeSpec := { name := "woodReads", fn := fun _ => fun
  | [d] => { results := [.lit (.bool false)], args := [d] }
  | _ => none }
def WoodReadsWrongFalsely : Prop := woodReadsRow.holds Try.pinned (OpenSpec.ofChange woodReadsWrong)

/-- 'copselaw23.WoodForests': WHATEVER THE INPUT: true; the input reads as it did. -/
def woodForestsSpec : ChangeSpec := { name := "woodForests", fn := fun _ => fun
  | [d1, d2] => { results := [.lit (.bool true)], args := [d1, d2] }
  | _ => none }
def woodForestsRow : OpenClaim := { program := "ytaeodkpkgbjaeaa", sum := "f3c50d7f7aea12a09434550758fd942a300a7901a1095de2b53453bc59f2faa3", func := "copse/copselaw23.WoodForests", spec := "woodForests", unfollowed := true, recurses := true, apart := false }
def WoodForestsSaid : Prop := woodForestsRow.holds Try.pinned (OpenSpec.ofChange woodForestsSpec)

/-- ITS FALSE NEIGHBOUR: 'it returns false'. Refute it at one input. -/
def woodForestsWrong : ChangeSpec := { name := "woodForests", fn := fun _ => fun
  | [d1, d2] => { results := [.lit (.bool false)], args := [d1, d2] }
  | _ => none }
def WoodForestsWrongFalsely : Prop := woodForestsRow.holds Try.pinned (OpenSpec.ofChange woodForestsWrong)

/-- 'copselaw25.DiskDoes': WHATEVER THE INPUT: true; the input reads as it did. -/
def diskDoesSpec : ChangeSpec := { name := "diskDoes", fn := fun _ => fun
  | [d1, d2] => { results := [.lit (.bool true)], args := [d1, d2] }
  | _ => none }
def diskDoesRow : OpenClaim := { program := "ytaeodkpkgbjaeaa", sum := "f3c50d7f7aea12a09434550758fd942a300a7901a1095de2b53453bc59f2faa3", func := "copse/copselaw25.DiskDoes", spec := "diskDoes", unfollowed := true, recurses := true, apart := false }
def DiskDoesSaid : Prop := diskDoesRow.holds Try.pinned (OpenSpec.ofChange diskDoesSpec)

/-- ITS FALSE NEIGHBOUR: 'it returns false'. Refute it at one input. -/
def diskDoesWrong : ChangeSpec := { name := "diskDoes", fn := fun _ => fun
  | [d1, d2] => { results := [.lit (.bool false)], args := [d1, d2] }
  | _ => none }
def DiskDoesWrongFalsely : Prop := diskDoesRow.holds Try.pinned (OpenSpec.ofChange diskDoesWrong)

/-- 'copselaw25.DiskImages': WHATEVER THE INPUT: true; the input reads as it did. -/
def diskImagesSpec : ChangeSpec := { name := "diskImages", fn := fun _ => fun
  | [d1, d2] => { results := [.lit (.bool true)], args := [d1, d2] }
  | _ => none }
def diskImagesRow : OpenClaim := { program := "ytaeodkpkgbjaeaa", sum := "f3c50d7f7aea12a09434550758fd942a300a7901a1095de2b53453bc59f2faa3", func := "copse/copselaw25.DiskImages", spec := "diskImages", unfollowed := true, recurses := true, apart := false }
def DiskImagesSaid : Prop := diskImagesRow.holds Try.pinned (OpenSpec.ofChange diskImagesSpec)

/-- ITS FALSE NEIGHBOUR: 'it returns false'. Refute it at one input. -/
def diskImagesWrong : ChangeSpec := { name := "diskImages", fn := fun _ => fun
  | [d1, d2] => { results := [.lit (.bool false)], args := [d1, d2] }
  | _ => none }
def DiskImagesWrongFalsely : Prop := diskImagesRow.holds Try.pinned (OpenSpec.ofChange diskImagesWrong)

/-- 'copselaw25.DiskSure': WHATEVER THE INPUT: true; the input reads as it did. -/
def diskSureSpec : ChangeSpec := { name := "diskSure", fn := fun _ => fun
  | [d1, d2, d3] => { results := [.lit (.bool true)], args := [d1, d2, d3] }
  | _ => none }
def diskSureRow : OpenClaim := { program := "ytaeodkpkgbjaeaa", sum := "f3c50d7f7aea12a09434550758fd942a300a7901a1095de2b53453bc59f2faa3", func := "copse/copselaw25.DiskSure", spec := "diskSure", unfollowed := true, recurses := true, apart := false }
def DiskSureSaid : Prop := diskSureRow.holds Try.pinned (OpenSpec.ofChange diskSureSpec)

/-- ITS FALSE NEIGHBOUR: 'it returns false'. Refute it at one input. -/
def diskSureWrong : ChangeSpec := { name := "diskSure", fn := fun _ => fun
  | [d1, d2, d3] => { results := [.lit (.bool false)], args := [d1, d2, d3] }
  | _ => none }
def DiskSureWrongFalsely : Prop := diskSureRow.holds Try.pinned (OpenSpec.ofChange diskSureWrong)

/-- 'copselaw26.SlabReads': WHATEVER THE INPUT: true; the input reads as it did. -/
def slabReadsSpec : ChangeSpec := { name := "slabReads", fn := fun _ => fun
  | [d1, d2, d3] => { results := [.lit (.bool true)], args := [d1, d2, d3] }
  | _ => none }
def slabReadsRow : OpenClaim := { program := "ytaeodkpkgbjaeaa", sum := "f3c50d7f7aea12a09434550758fd942a300a7901a1095de2b53453bc59f2faa3", func := "copse/copselaw26.SlabReads", spec := "slabReads", unfollowed := true, recurses := true, apart := false }
def SlabReadsSaid : Prop := slabReadsRow.holds Try.pinned (OpenSpec.ofChange slabReadsSpec)

/-- ITS FALSE NEIGHBOUR: 'it returns false'. Refute it at one input. -/
def slabReadsWrong : ChangeSpec := { name := "slabReads", fn := fun _ => fun
  | [d1, d2, d3] => { results := [.lit (.bool false)], args := [d1, d2, d3] }
  | _ => none }
def SlabReadsWrongFalsely : Prop := slabReadsRow.holds Try.pinned (OpenSpec.ofChange slabReadsWrong)

/-- 'copselaw26.SlabBack': WHATEVER THE INPUT: true; the input reads as it did. -/
def slabBackSpec : ChangeSpec := { name := "slabBack", fn := fun _ => fun
  | [d] => { results := [.lit (.bool true)], args := [d] }
  | _ => none }
def slabBackRow : OpenClaim := { program := "ytaeodkpkgbjaeaa", sum := "f3c50d7f7aea12a09434550758fd942a300a7901a1095de2b53453bc59f2faa3", func := "copse/copselaw26.SlabBack", spec := "slabBack", unfollowed := true, recurses := true, apart := false }
def SlabBackSaid : Prop := slabBackRow.holds Try.pinned (OpenSpec.ofChange slabBackSpec)

/-- ITS FALSE NEIGHBOUR: 'it returns false'. Refute it at one input. -/
def slabBackWrong : ChangeSpec := { name := "slabBack", fn := fun _ => fun
  | [d] => { results := [.lit (.bool false)], args := [d] }
  | _ => none }
def SlabBackWrongFalsely : Prop := slabBackRow.holds Try.pinned (OpenSpec.ofChange slabBackWrong)

/-- 'copselaw26.SlabCrash': WHATEVER THE INPUT: true; the input reads as it did. -/
def slabCrashSpec : ChangeSpec := { name := "slabCrash", fn := fun _ => fun
  | [d1, d2, d3, d4] => { results := [.lit (.bool true)], args := [d1, d2, d3, d4] }
  | _ => none }
def slabCrashRow : OpenClaim := { program := "ytaeodkpkgbjaeaa", sum := "f3c50d7f7aea12a09434550758fd942a300a7901a1095de2b53453bc59f2faa3", func := "copse/copselaw26.SlabCrash", spec := "slabCrash", unfollowed := true, recurses := true, apart := false }
def SlabCrashSaid : Prop := slabCrashRow.holds Try.pinned (OpenSpec.ofChange slabCrashSpec)

/-- ITS FALSE NEIGHBOUR: 'it returns false'. Refute it at one input. -/
def slabCrashWrong : ChangeSpec := { name := "slabCrash", fn := fun _ => fun
  | [d1, d2, d3, d4] => { results := [.lit (.bool false)], args := [d1, d2, d3, d4] }
  | _ => none }
def SlabCrashWrongFalsely : Prop := slabCrashRow.holds Try.pinned (OpenSpec.ofChange slabCrashWrong)

/- THE SECOND FORM. 'bulk': how many values and letters a reading holds, each counted each time it is reached (what is shared counts as often as it is met; a slice's spare places count too). A statement '..UptoSaid' is the law's where the arguments, and the package variables that the reading takes, are together of bulk at most 1048576: NARROWER than '..Said'. Prove '..Said' where nothing that the law and all that it calls make is longer than what came in: it says more and counts as full. Else prove '..UptoSaid'. A law counts once. -/
mutual
def uptoBulk {H : Type} : DataW H → Nat
  | .lit (.string bytes) => bytes.length + 1
  | .lit _ => 1
  | .nil => 1
  | .ptr d => uptoBulk d + 1
  | .slice elems spare => uptoBulkAll elems + uptoBulkAll spare + 1
  | .agg parts => uptoBulkAll parts + 1
  | .iface _ d => uptoBulk d + 1
  | .map entries => uptoBulkEntries entries + 1
  | .held _ => 1
def uptoBulkAll {H : Type} : List (DataW H) → Nat
  | [] => 0
  | d :: r => uptoBulk d + uptoBulkAll r
def uptoBulkEntries {H : Type} : List (Lit × DataW H) → Nat
  | [] => 0
  | x :: r => uptoBulkEntry x + uptoBulkEntries r
def uptoBulkEntry {H : Type} : Lit × DataW H → Nat
  | (.string bytes, d) => bytes.length + uptoBulk d + 1
  | (_, d) => uptoBulk d + 1
 end
def uptoSmall : (H : Type) → List (DataW H) → Bool := fun _ ds => decide (uptoBulkAll ds ≤ 1048576)
def OpenSpec.upto (s : _root_.Go.ChangeSpec) : _root_.Go.OpenSpec := { _root_.Go.OpenSpec.ofChange s with cond := some uptoSmall }

/-- 'copselaw18.BagDoes', WHERE WHAT IT READS IS OF BULK AT MOST 1048576: true; the input reads as it did. -/
def bagDoesUptoRow : OpenClaim := { program := "ytaeodkpkgbjaeaa", sum := "f3c50d7f7aea12a09434550758fd942a300a7901a1095de2b53453bc59f2faa3", func := "copse/copselaw18.BagDoes", spec := "bagDoes", inPlace := ["slices.overlaps[[]copse/api.Score]"], unfollowed := true, recurses := true, apart := false, narrowed := true }
def BagDoesUptoSaid : Prop := bagDoesUptoRow.holds Try.pinned (OpenSpec.upto bagDoesSpec)

/-- 'copselaw18.BagOrders', WHERE WHAT IT READS IS OF BULK AT MOST 1048576: true; the input reads as it did. -/
def bagOrdersUptoRow : OpenClaim := { program := "ytaeodkpkgbjaeaa", sum := "f3c50d7f7aea12a09434550758fd942a300a7901a1095de2b53453bc59f2faa3", func := "copse/copselaw18.BagOrders", spec := "bagOrders", inPlace := ["slices.overlaps[[]copse/api.Score]"], unfollowed := true, recurses := true, apart := false, narrowed := true }
def BagOrdersUptoSaid : Prop := bagOrdersUptoRow.holds Try.pinned (OpenSpec.upto bagOrdersSpec)

/-- 'copselaw18.BagRanks', WHERE WHAT IT READS IS OF BULK AT MOST 1048576: true; the input reads as it did. -/
def bagRanksUptoRow : OpenClaim := { program := "ytaeodkpkgbjaeaa", sum := "f3c50d7f7aea12a09434550758fd942a300a7901a1095de2b53453bc59f2faa3", func := "copse/copselaw18.BagRanks", spec := "bagRanks", inPlace := ["slices.overlaps[[]copse/api.Score]"], unfollowed := true, recurses := true, apart := false, narrowed := true }
def BagRanksUptoSaid : Prop := bagRanksUptoRow.holds Try.pinned (OpenSpec.upto bagRanksSpec)

/-- 'copselaw19.QuantLines', WHERE WHAT IT READS IS OF BULK AT MOST 1048576: true; the input reads as it did. -/
def quantLinesUptoRow : OpenClaim := { program := "ytaeodkpkgbjaeaa", sum := "f3c50d7f7aea12a09434550758fd942a300a7901a1095de2b53453bc59f2faa3", func := "copse/copselaw19.QuantLines", spec := "quantLines", inPlace := ["slices.overlaps[[]copse/api.Score]"], unfollowed := true, recurses := true, apart := false, narrowed := true }
def QuantLinesUptoSaid : Prop := quantLinesUptoRow.holds Try.pinned (OpenSpec.upto quantLinesSpec)

/-- 'copselaw23.WoodTrees', WHERE WHAT IT READS IS OF BULK AT MOST 1048576: true; the input reads as it did. -/
def woodTreesUptoRow : OpenClaim := { program := "ytaeodkpkgbjaeaa", sum := "f3c50d7f7aea12a09434550758fd942a300a7901a1095de2b53453bc59f2faa3", func := "copse/copselaw23.WoodTrees", spec := "woodTrees", unfollowed := true, recurses := true, apart := false, narrowed := true }
def WoodTreesUptoSaid : Prop := woodTreesUptoRow.holds Try.pinned (OpenSpec.upto woodTreesSpec)

/-- 'copselaw23.WoodReads', WHERE WHAT IT READS IS OF BULK AT MOST 1048576: true; the input reads as it did. -/
def woodReadsUptoRow : OpenClaim := { program := "ytaeodkpkgbjaeaa", sum := "f3c50d7f7aea12a09434550758fd942a300a7901a1095de2b53453bc59f2faa3", func := "copse/copselaw23.WoodReads", spec := "woodReads", unfollowed := true, recurses := true, apart := false, narrowed := true }
def WoodReadsUptoSaid : Prop := woodReadsUptoRow.holds Try.pinned (OpenSpec.upto woodReadsSpec)

/-- 'copselaw23.WoodForests', WHERE WHAT IT READS IS OF BULK AT MOST 1048576: true; the input reads as it did. -/
def woodForestsUptoRow : OpenClaim := { program := "ytaeodkpkgbjaeaa", sum := "f3c50d7f7aea12a09434550758fd942a300a7901a1095de2b53453bc59f2faa3", func := "copse/copselaw23.WoodForests", spec := "woodForests", unfollowed := true, recurses := true, apart := false, narrowed := true }
def WoodForestsUptoSaid : Prop := woodForestsUptoRow.holds Try.pinned (OpenSpec.upto woodForestsSpec)

/-- 'copselaw25.DiskDoes', WHERE WHAT IT READS IS OF BULK AT MOST 1048576: true; the input reads as it did. -/
def diskDoesUptoRow : OpenClaim := { program := "ytaeodkpkgbjaeaa", sum := "f3c50d7f7aea12a09434550758fd942a300a7901a1095de2b53453bc59f2faa3", func := "copse/copselaw25.DiskDoes", spec := "diskDoes", unfollowed := true, recurses := true, apart := false, narrowed := true }
def DiskDoesUptoSaid : Prop := diskDoesUptoRow.holds Try.pinned (OpenSpec.upto diskDoesSpec)

/-- 'copselaw25.DiskImages', WHERE WHAT IT READS IS OF BULK AT MOST 1048576: true; the input reads as it did. -/
def diskImagesUptoRow : OpenClaim := { program := "ytaeodkpkgbjaeaa", sum := "f3c50d7f7aea12a09434550758fd942a300a7901a1095de2b53453bc59f2faa3", func := "copse/copselaw25.DiskImages", spec := "diskImages", unfollowed := true, recurses := true, apart := false, narrowed := true }
def DiskImagesUptoSaid : Prop := diskImagesUptoRow.holds Try.pinned (OpenSpec.upto diskImagesSpec)

/-- 'copselaw25.DiskSure', WHERE WHAT IT READS IS OF BULK AT MOST 1048576: true; the input reads as it did. -/
def diskSureUptoRow : OpenClaim := { program := "ytaeodkpkgbjaeaa", sum := "f3c50d7f7aea12a09434550758fd942a300a7901a1095de2b53453bc59f2faa3", func := "copse/copselaw25.DiskSure", spec := "diskSure", unfollowed := true, recurses := true, apart := false, narrowed := true }
def DiskSureUptoSaid : Prop := diskSureUptoRow.holds Try.pinned (OpenSpec.upto diskSureSpec)

/-- 'copselaw26.SlabReads', WHERE WHAT IT READS IS OF BULK AT MOST 1048576: true; the input reads as it did. -/
def slabReadsUptoRow : OpenClaim := { program := "ytaeodkpkgbjaeaa", sum := "f3c50d7f7aea12a09434550758fd942a300a7901a1095de2b53453bc59f2faa3", func := "copse/copselaw26.SlabReads", spec := "slabReads", unfollowed := true, recurses := true, apart := false, narrowed := true }
def SlabReadsUptoSaid : Prop := slabReadsUptoRow.holds Try.pinned (OpenSpec.upto slabReadsSpec)

/-- 'copselaw26.SlabBack', WHERE WHAT IT READS IS OF BULK AT MOST 1048576: true; the input reads as it did. -/
def slabBackUptoRow : OpenClaim := { program := "ytaeodkpkgbjaeaa", sum := "f3c50d7f7aea12a09434550758fd942a300a7901a1095de2b53453bc59f2faa3", func := "copse/copselaw26.SlabBack", spec := "slabBack", unfollowed := true, recurses := true, apart := false, narrowed := true }
def SlabBackUptoSaid : Prop := slabBackUptoRow.holds Try.pinned (OpenSpec.upto slabBackSpec)

/-- 'copselaw26.SlabCrash', WHERE WHAT IT READS IS OF BULK AT MOST 1048576: true; the input reads as it did. -/
def slabCrashUptoRow : OpenClaim := { program := "ytaeodkpkgbjaeaa", sum := "f3c50d7f7aea12a09434550758fd942a300a7901a1095de2b53453bc59f2faa3", func := "copse/copselaw26.SlabCrash", spec := "slabCrash", unfollowed := true, recurses := true, apart := false, narrowed := true }
def SlabCrashUptoSaid : Prop := slabCrashUptoRow.holds Try.pinned (OpenSpec.upto slabCrashSpec)

end Rows
end Go.Proofs.Ytaeodkpkgbjaeaa
