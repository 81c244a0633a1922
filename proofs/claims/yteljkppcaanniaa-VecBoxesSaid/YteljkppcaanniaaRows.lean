/-
  No cell of these rows narrows 'for every input' (looked for: loops, veiled, ifaces, maps, wideKeys, modest, calm, conditions, laid).
  DERIVED. THE GIVEN ROWS OF THIS SEAT. 9 by the template 'for every input the law returns true; each argument reads behind the call as it read before'; 0 by the template 'total and deterministic' (their statements: YteljkppcaanniaaTotals.lean).
  GIVEN WITH THE SEED: the statements are not yours to turn. If you find one false, say at which input.
  Laid BY PROGRAM, IN A SANDBOX (cutbox-rows.mjs): the forced cells as the released guide's own fill.sh prints them over the translation cc4dfefb02e691f0… (all of the seat's roots in one cut). By AI agents, Wed Nov 11 2026. No macro, syntax, notation, axiom, sorry.
-/
import Derived.Test.YteljkppcaanniaaChecked
import GoSem.Claim
import GoSem.ClaimJoined
import GoSem.ClaimMapViews
import Derived.JoinedTies
import Derived.KernelRfl
namespace Go.Proofs.Yteljkppcaanniaa
/- THE CELL 'sum', in the pinned program and in every row, IS THE sha256 OF THE DUMP (.gsa) THAT YteljkppcaanniaaProg.lean LOADS. Nothing in Lean hashes anything: it is a label: what it is worth is what the hold of that sum in a sandbox is worth. -/
noncomputable def Try.pinned : Pinned := { name := "yteljkppcaanniaa", sum := "cc4dfefb02e691f05f5322d0de3a6dec8249b0f6cb5ec32f1e26fe5b4b606b5d", checked := Try.checked }
namespace Rows
def none {H : Type} : Left H := { results := [], args := [] }

/-- 'copselaw07.PickSamples': WHATEVER THE INPUT: true; the input reads as it did. -/
def pickSamplesSpec : ChangeSpec := { name := "pickSamples", fn := fun _ => fun
  | [d1, d2, d3, d4, d5] => { results := [.lit (.bool true)], args := [d1, d2, d3, d4, d5] }
  | _ => none }
def pickSamplesRow : OpenClaim := { program := "yteljkppcaanniaa", sum := "cc4dfefb02e691f05f5322d0de3a6dec8249b0f6cb5ec32f1e26fe5b4b606b5d", func := "copse/copselaw07.PickSamples", spec := "pickSamples", unfollowed := true, recurses := true, apart := false }
def PickSamplesSaid : Prop := pickSamplesRow.holds Try.pinned (OpenSpec.ofChange pickSamplesSpec)

/-- ITS FALSE NEIGHBOUR: 'it returns false'. Refute it at one input. -/
def pickSamplesWrong : ChangeSpec := { name := "pickSamples", fn := fun _ => fun
  | [d1, d2, d3, d4, d5] => { results := [.lit (.bool false)], args := [d1, d2, d3, d4, d5] }
  | _ => none }
def PickSamplesWrongFalsely : Prop := pickSamplesRow.holds Try.pinned (OpenSpec.ofChange pickSamplesWrong)

/-- 'copselaw07.PickBack': WHATEVER THE INPUT: true; the input reads as it did. -/
def pickBackSpec : ChangeSpec := { name := "pickBack", fn := fun _ => fun
  | [d1, d2, d3] => { results := [.lit (.bool true)], args := [d1, d2, d3] }
  | _ => none }
def pickBackRow : OpenClaim := { program := "yteljkppcaanniaa", sum := "cc4dfefb02e691f05f5322d0de3a6dec8249b0f6cb5ec32f1e26fe5b4b606b5d", func := "copse/copselaw07.PickBack", spec := "pickBack", unfollowed := true, recurses := true, apart := false }
def PickBackSaid : Prop := pickBackRow.holds Try.pinned (OpenSpec.ofChange pickBackSpec)

/-- ITS FALSE NEIGHBOUR: 'it returns false'. Refute it at one input. -/
def pickBackWrong : ChangeSpec := { name := "pickBack", fn := fun _ => fun
  | [d1, d2, d3] => { results := [.lit (.bool false)], args := [d1, d2, d3] }
  | _ => none }
def PickBackWrongFalsely : Prop := pickBackRow.holds Try.pinned (OpenSpec.ofChange pickBackWrong)

/-- 'copselaw07.PickCoefs': WHATEVER THE INPUT: true; the input reads as it did. -/
def pickCoefsSpec : ChangeSpec := { name := "pickCoefs", fn := fun _ => fun
  | [d1, d2, d3, d4] => { results := [.lit (.bool true)], args := [d1, d2, d3, d4] }
  | _ => none }
def pickCoefsRow : OpenClaim := { program := "yteljkppcaanniaa", sum := "cc4dfefb02e691f05f5322d0de3a6dec8249b0f6cb5ec32f1e26fe5b4b606b5d", func := "copse/copselaw07.PickCoefs", spec := "pickCoefs", unfollowed := true, recurses := true, apart := false }
def PickCoefsSaid : Prop := pickCoefsRow.holds Try.pinned (OpenSpec.ofChange pickCoefsSpec)

/-- ITS FALSE NEIGHBOUR: 'it returns false'. Refute it at one input. -/
def pickCoefsWrong : ChangeSpec := { name := "pickCoefs", fn := fun _ => fun
  | [d1, d2, d3, d4] => { results := [.lit (.bool false)], args := [d1, d2, d3, d4] }
  | _ => none }
def PickCoefsWrongFalsely : Prop := pickCoefsRow.holds Try.pinned (OpenSpec.ofChange pickCoefsWrong)

/-- 'copselaw07.PickWeighs': WHATEVER THE INPUT: true; the input reads as it did. -/
def pickWeighsSpec : ChangeSpec := { name := "pickWeighs", fn := fun _ => fun
  | [d1, d2, d3, d4] => { results := [.lit (.bool true)], args := [d1, d2, d3, d4] }
  | _ => none }
def pickWeighsRow : OpenClaim := { program := "yteljkppcaanniaa", sum := "cc4dfefb02e691f05f5322d0de3a6dec8249b0f6cb5ec32f1e26fe5b4b606b5d", func := "copse/copselaw07.PickWeighs", spec := "pickWeighs", unfollowed := true, recurses := true, apart := false }
def PickWeighsSaid : Prop := pickWeighsRow.holds Try.pinned (OpenSpec.ofChange pickWeighsSpec)

/-- ITS FALSE NEIGHBOUR: 'it returns false'. Refute it at one input. -/
def pickWeighsWrong : ChangeSpec := { name := "pickWeighs", fn := fun _ => fun
  | [d1, d2, d3, d4] => { results := [.lit (.bool false)], args := [d1, d2, d3, d4] }
  | _ => none }
def PickWeighsWrongFalsely : Prop := pickWeighsRow.holds Try.pinned (OpenSpec.ofChange pickWeighsWrong)

/-- 'copselaw08.VecDots': WHATEVER THE INPUT: true; the input reads as it did. -/
def vecDotsSpec : ChangeSpec := { name := "vecDots", fn := fun _ => fun
  | [d1, d2, d3] => { results := [.lit (.bool true)], args := [d1, d2, d3] }
  | _ => none }
def vecDotsRow : OpenClaim := { program := "yteljkppcaanniaa", sum := "cc4dfefb02e691f05f5322d0de3a6dec8249b0f6cb5ec32f1e26fe5b4b606b5d", func := "copse/copselaw08.VecDots", spec := "vecDots", unfollowed := true, recurses := true, apart := false }
def VecDotsSaid : Prop := vecDotsRow.holds Try.pinned (OpenSpec.ofChange vecDotsSpec)

/-- ITS FALSE NEIGHBOUR: 'it returns false'. Refute it at one input. -/
def vecDotsWrong : ChangeSpec := { name := "vecDots", fn := fun _ => fun
  | [d1, d2, d3] => { results := [.lit (.bool false)], args := [d1, d2, d3] }
  | _ => none }
def VecDotsWrongFalsely : Prop := vecDotsRow.holds Try.pinned (OpenSpec.ofChange vecDotsWrong)

/-- 'copselaw08.VecBoxes': WHATEVER THE INPUT: true; the input reads as it did. -/
def vecBoxesSpec : ChangeSpec := { name := "vecBoxes", fn := fun _ => fun
  | [d1, d2, d3] => { results := [.lit (.bool true)], args := [d1, d2, d3] }
  | _ => none }
def vecBoxesRow : OpenClaim := { program := "yteljkppcaanniaa", sum := "cc4dfefb02e691f05f5322d0de3a6dec8249b0f6cb5ec32f1e26fe5b4b606b5d", func := "copse/copselaw08.VecBoxes", spec := "vecBoxes", unfollowed := true, recurses := true, apart := false }
def VecBoxesSaid : Prop := vecBoxesRow.holds Try.pinned (OpenSpec.ofChange vecBoxesSpec)

/-- ITS FALSE NEIGHBOUR: 'it returns false'. Refute it at one input. -/
def vecBoxesWrong : ChangeSpec := { name := "vecBoxes", fn := fun _ => fun
  | [d1, d2, d3] => { results := [.lit (.bool false)], args := [d1, d2, d3] }
  | _ => none }
def VecBoxesWrongFalsely : Prop := vecBoxesRow.holds Try.pinned (OpenSpec.ofChange vecBoxesWrong)

/-- 'copselaw08.VecReach': WHATEVER THE INPUT: true; the input reads as it did. -/
def vecReachSpec : ChangeSpec := { name := "vecReach", fn := fun _ => fun
  | [d1, d2] => { results := [.lit (.bool true)], args := [d1, d2] }
  | _ => none }
def vecReachRow : OpenClaim := { program := "yteljkppcaanniaa", sum := "cc4dfefb02e691f05f5322d0de3a6dec8249b0f6cb5ec32f1e26fe5b4b606b5d", func := "copse/copselaw08.VecReach", spec := "vecReach", unfollowed := true, recurses := true, apart := false }
def VecReachSaid : Prop := vecReachRow.holds Try.pinned (OpenSpec.ofChange vecReachSpec)

/-- ITS FALSE NEIGHBOUR: 'it returns false'. Refute it at one input. -/
def vecReachWrong : ChangeSpec := { name := "vecReach", fn := fun _ => fun
  | [d1, d2] => { results := [.lit (.bool false)], args := [d1, d2] }
  | _ => none }
def VecReachWrongFalsely : Prop := vecReachRow.holds Try.pinned (OpenSpec.ofChange vecReachWrong)

/-- 'copselaw08.VecOrders': WHATEVER THE INPUT: true; the input reads as it did. -/
def vecOrdersSpec : ChangeSpec := { name := "vecOrders", fn := fun _ => fun
  | [d1, d2, d3] => { results := [.lit (.bool true)], args := [d1, d2, d3] }
  | _ => none }
def vecOrdersRow : OpenClaim := { program := "yteljkppcaanniaa", sum := "cc4dfefb02e691f05f5322d0de3a6dec8249b0f6cb5ec32f1e26fe5b4b606b5d", func := "copse/copselaw08.VecOrders", spec := "vecOrders", unfollowed := true, recurses := true, apart := false }
def VecOrdersSaid : Prop := vecOrdersRow.holds Try.pinned (OpenSpec.ofChange vecOrdersSpec)

/-- ITS FALSE NEIGHBOUR: 'it returns false'. Refute it at one input. -/
def vecOrdersWrong : ChangeSpec := { name := "vecOrders", fn := fun _ => fun
  | [d1, d2, d3] => { results := [.lit (.bool false)], args := [d1, d2, d3] }
  | _ => none }
def VecOrdersWrongFalsely : Prop := vecOrdersRow.holds Try.pinned (OpenSpec.ofChange vecOrdersWrong)

/-- 'copselaw08.VecGaps': WHATEVER THE INPUT: true; the input reads as it did. -/
def vecGapsSpec : ChangeSpec := { name := "vecGaps", fn := fun _ => fun
  | [d1, d2, d3, d4] => { results := [.lit (.bool true)], args := [d1, d2, d3, d4] }
  | _ => none }
def vecGapsRow : OpenClaim := { program := "yteljkppcaanniaa", sum := "cc4dfefb02e691f05f5322d0de3a6dec8249b0f6cb5ec32f1e26fe5b4b606b5d", func := "copse/copselaw08.VecGaps", spec := "vecGaps", unfollowed := true, recurses := true, apart := false }
def VecGapsSaid : Prop := vecGapsRow.holds Try.pinned (OpenSpec.ofChange vecGapsSpec)

/-- ITS FALSE NEIGHBOUR: 'it returns false'. Refute it at one input. -/
def vecGapsWrong : ChangeSpec := { name := "vecGaps", fn := fun _ => fun
  | [d1, d2, d3, d4] => { results := [.lit (.bool false)], args := [d1, d2, d3, d4] }
  | _ => none }
def VecGapsWrongFalsely : Prop := vecGapsRow.holds Try.pinned (OpenSpec.ofChange vecGapsWrong)

/- THE SECOND FORM. 'bulk': how many values and letters a reading holds, each counted each time it is reached (what is shared counts as often as it is met; a slice's spare places count too). A statement '..UptoSaid' is the law's where the arguments, and the package variables that the reading takes, are together of bulk at most 1048576: NARROWER than '..Said'. Prove '..Said' where nothing that the law and all that it calls make is longer than what came in: it says more and counts as full. Else prove '..UptoSaid'. A law counts once. -/
mutual
def uptoBulk {H : Type} : DataW H → Nat
  | .lit (.string bytes) => bytes.length + 1
  | .lit _ => 1
  | .nil => 1
  | .ptr d => uptoBulk d + 1
  | .slice elems spare => uptoBulkAll elems + uptoBulkAll spare + 1
  | .agg parts => uptoBulkAll parts + 1
  | .iface _ d => uptoBulk d + 1
  | .map entries => uptoBulkEntries entries + 1
  | .held _ => 1
def uptoBulkAll {H : Type} : List (DataW H) → Nat
  | [] => 0
  | d :: r => uptoBulk d + uptoBulkAll r
def uptoBulkEntries {H : Type} : List (Lit × DataW H) → Nat
  | [] => 0
  | x :: r => uptoBulkEntry x + uptoBulkEntries r
def uptoBulkEntry {H : Type} : Lit × DataW H → Nat
  | (.string bytes, d) => bytes.length + uptoBulk d + 1
  | (_, d) => uptoBulk d + 1
 end
def uptoSmall : (H : Type) → List (DataW H) → Bool := fun _ ds => decide (uptoBulkAll ds ≤ 1048576)
def OpenSpec.upto (s : _root_.Go.ChangeSpec) : _root_.Go.OpenSpec := { _root_.Go.OpenSpec.ofChange s with cond := some uptoSmall }

/-- 'copselaw07.PickSamples', WHERE WHAT IT READS IS OF BULK AT MOST 1048576: true; the input reads as it did. -/
def pickSamplesUptoRow : OpenClaim := { program := "yteljkppcaanniaa", sum := "cc4dfefb02e691f05f5322d0de3a6dec8249b0f6cb5ec32f1e26fe5b4b606b5d", func := "copse/copselaw07.PickSamples", spec := "pickSamples", unfollowed := true, recurses := true, apart := false, narrowed := true }
def PickSamplesUptoSaid : Prop := pickSamplesUptoRow.holds Try.pinned (OpenSpec.upto pickSamplesSpec)

/-- 'copselaw07.PickBack', WHERE WHAT IT READS IS OF BULK AT MOST 1048576: true; the input reads as it did. -/
def pickBackUptoRow : OpenClaim := { program := "yteljkppcaanniaa", sum := "cc4dfefb02e691f05f5322d0de3a6dec8249b0f6cb5ec32f1e26fe5b4b606b5d", func := "copse/copselaw07.PickBack", spec := "pickBack", unfollowed := true, recurses := true, apart := false, narrowed := true }
def PickBackUptoSaid : Prop := pickBackUptoRow.holds Try.pinned (OpenSpec.upto pickBackSpec)

/-- 'copselaw07.PickCoefs', WHERE WHAT IT READS IS OF BULK AT MOST 1048576: true; the input reads as it did. -/
def pickCoefsUptoRow : OpenClaim := { program := "yteljkppcaanniaa", sum := "cc4dfefb02e691f05f5322d0de3a6dec8249b0f6cb5ec32f1e26fe5b4b606b5d", func := "copse/copselaw07.PickCoefs", spec := "pickCoefs", unfollowed := true, recurses := true, apart := false, narrowed := true }
def PickCoefsUptoSaid : Prop := pickCoefsUptoRow.holds Try.pinned (OpenSpec.upto pickCoefsSpec)

/-- 'copselaw07.PickWeighs', WHERE WHAT IT READS IS OF BULK AT MOST 1048576: true; the input reads as it did. -/
def pickWeighsUptoRow : OpenClaim := { program := "yteljkppcaanniaa", sum := "cc4dfefb02e691f05f5322d0de3a6dec8249b0f6cb5ec32f1e26fe5b4b606b5d", func := "copse/copselaw07.PickWeighs", spec := "pickWeighs", unfollowed := true, recurses := true, apart := false, narrowed := true }
def PickWeighsUptoSaid : Prop := pickWeighsUptoRow.holds Try.pinned (OpenSpec.upto pickWeighsSpec)

/-- 'copselaw08.VecDots', WHERE WHAT IT READS IS OF BULK AT MOST 1048576: true; the input reads as it did. -/
def vecDotsUptoRow : OpenClaim := { program := "yteljkppcaanniaa", sum := "cc4dfefb02e691f05f5322d0de3a6dec8249b0f6cb5ec32f1e26fe5b4b606b5d", func := "copse/copselaw08.VecDots", spec := "vecDots", unfollowed := true, recurses := true, apart := false, narrowed := true }
def VecDotsUptoSaid : Prop := vecDotsUptoRow.holds Try.pinned (OpenSpec.upto vecDotsSpec)

/-- 'copselaw08.VecBoxes', WHERE WHAT IT READS IS OF BULK AT MOST 1048576: true; the input reads as it did. -/
def vecBoxesUptoRow : OpenClaim := { program := "yteljkppcaanniaa", sum := "cc4dfefb02e691f05f5322d0de3a6dec8249b0f6cb5ec32f1e26fe5b4b606b5d", func := "copse/copselaw08.VecBoxes", spec := "vecBoxes", unfollowed := true, recurses := true, apart := false, narrowed := true }
def VecBoxesUptoSaid : Prop := vecBoxesUptoRow.holds Try.pinned (OpenSpec.upto vecBoxesSpec)

/-- 'copselaw08.VecReach', WHERE WHAT IT READS IS OF BULK AT MOST 1048576: true; the input reads as it did. -/
def vecReachUptoRow : OpenClaim := { program := "yteljkppcaanniaa", sum := "cc4dfefb02e691f05f5322d0de3a6dec8249b0f6cb5ec32f1e26fe5b4b606b5d", func := "copse/copselaw08.VecReach", spec := "vecReach", unfollowed := true, recurses := true, apart := false, narrowed := true }
def VecReachUptoSaid : Prop := vecReachUptoRow.holds Try.pinned (OpenSpec.upto vecReachSpec)

/-- 'copselaw08.VecOrders', WHERE WHAT IT READS IS OF BULK AT MOST 1048576: true; the input reads as it did. -/
def vecOrdersUptoRow : OpenClaim := { program := "yteljkppcaanniaa", sum := "cc4dfefb02e691f05f5322d0de3a6dec8249b0f6cb5ec32f1e26fe5b4b606b5d", func := "copse/copselaw08.VecOrders", spec := "vecOrders", unfollowed := true, recurses := true, apart := false, narrowed := true }
def VecOrdersUptoSaid : Prop := vecOrdersUptoRow.holds Try.pinned (OpenSpec.upto vecOrdersSpec)

/-- 'copselaw08.VecGaps', WHERE WHAT IT READS IS OF BULK AT MOST 1048576: true; the input reads as it did. -/
def vecGapsUptoRow : OpenClaim := { program := "yteljkppcaanniaa", sum := "cc4dfefb02e691f05f5322d0de3a6dec8249b0f6cb5ec32f1e26fe5b4b606b5d", func := "copse/copselaw08.VecGaps", spec := "vecGaps", unfollowed := true, recurses := true, apart := false, narrowed := true }
def VecGapsUptoSaid : Prop := vecGapsUptoRow.holds Try.pinned (OpenSpec.upto vecGapsSpec)

end Rows
end Go.Proofs.Yteljkppcaanniaa
