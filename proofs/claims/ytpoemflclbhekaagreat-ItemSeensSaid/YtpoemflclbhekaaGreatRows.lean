/-
  No cell of these rows narrows 'for every input' (looked for: loops, veiled, ifaces, maps, wideKeys, modest, calm, conditions, laid).
  DERIVED. THE GIVEN ROWS OF THIS SEAT. 2 by the template 'for every input the law returns true; each argument reads behind the call as it read before'; 0 by the template 'total and deterministic' (their statements: YtpoemflclbhekaaGreatTotals.lean).
  GIVEN WITH THE SEED: the statements are not yours to turn. If you find one false, say at which input.
  Laid BY PROGRAM, IN A SANDBOX (cutbox-rows.mjs): the forced cells as the released guide's own fill.sh prints them over the translation 38489867e6e9ae3e… (all of the seat's roots in one cut). By AI agents, Wed Nov 11 2026. No macro, syntax, notation, axiom, sorry.
-/
import Derived.Test.YtpoemflclbhekaaGreatChecked
import GoSem.Claim
import GoSem.ClaimJoined
import GoSem.ClaimMapViews
import Derived.JoinedTies
import Derived.KernelRfl
namespace Go.Proofs.YtpoemflclbhekaaGreat
/- THE CELL 'sum', in the pinned program and in every row, IS THE sha256 OF THE DUMP (.gsa) THAT YtpoemflclbhekaaGreatProg.lean LOADS. Nothing in Lean hashes anything: it is a label: what it is worth is what the hold of that sum in a sandbox is worth. -/
noncomputable def Tryz.pinned : Pinned := { name := "ytpoemflclbhekaagreat", sum := "38489867e6e9ae3e60e8ea5598bc27d0428632e750c395c8132b46c45cad2d63", checked := Tryz.checked }
namespace Rows
def none {H : Type} : Left H := { results := [], args := [] }

/-- 'copselaw22.ItemScores': WHATEVER THE INPUT: true; the input reads as it did. -/
def itemScoresSpec : ChangeSpec := { name := "itemScores", fn := fun _ => fun
  | [d1, d2] => { results := [.lit (.bool true)], args := [d1, d2] }
  | _ => none }
def itemScoresRow : OpenClaim := { program := "ytpoemflclbhekaagreat", sum := "38489867e6e9ae3e60e8ea5598bc27d0428632e750c395c8132b46c45cad2d63", func := "copse/copselaw22.ItemScores", spec := "itemScores", unfollowed := true, recurses := true, apart := false }
def ItemScoresSaid : Prop := itemScoresRow.holds Tryz.pinned (OpenSpec.ofChange itemScoresSpec)

/-- ITS FALSE NEIGHBOUR: 'it returns false'. Refute it at one input. -/
def itemScoresWrong : ChangeSpec := { name := "itemScores", fn := fun _ => fun
  | [d1, d2] => { results := [.lit (.bool false)], args := [d1, d2] }
  | _ => none }
def ItemScoresWrongFalsely : Prop := itemScoresRow.holds Tryz.pinned (OpenSpec.ofChange itemScoresWrong)

/-- 'copselaw22.ItemSeens': WHATEVER THE INPUT: true; the input reads as it did. -/
def itemSeensSpec : ChangeSpec := { name := "itemSeens", fn := fun _ => fun
  | [d1, d2, d3] => { results := [.lit (.bool true)], args := [d1, d2, d3] }
  | _ => none }
def itemSeensRow : OpenClaim := { program := "ytpoemflclbhekaagreat", sum := "38489867e6e9ae3e60e8ea5598bc27d0428632e750c395c8132b46c45cad2d63", func := "copse/copselaw22.ItemSeens", spec := "itemSeens", unfollowed := true, recurses := true, apart := false }
def ItemSeensSaid : Prop := itemSeensRow.holds Tryz.pinned (OpenSpec.ofChange itemSeensSpec)

/-- ITS FALSE NEIGHBOUR: 'it returns false'. Refute it at one input. -/
def itemSeensWrong : ChangeSpec := { name := "itemSeens", fn := fun _ => fun
  | [d1, d2, d3] => { results := [.lit (.bool false)], args := [d1, d2, d3] }
  | _ => none }
def ItemSeensWrongFalsely : Prop := itemSeensRow.holds Tryz.pinned (OpenSpec.ofChange itemSeensWrong)

/- THE SECOND FORM. 'bulk': how many values and letters a reading holds, each counted each time it is reached (what is shared counts as often as it is met; a slice's spare places count too). A statement '..UptoSaid' is the law's where the arguments, and the package variables that the reading takes, are together of bulk at most 1048576: NARROWER than '..Said'. Prove '..Said' where nothing that the law and all that it calls make is longer than what came in: it says more and counts as full. Else prove '..UptoSaid'. A law counts once. -/
mutual
def uptoBulk {H : Type} : DataW H → Nat
  | .lit (.string bytes) => bytes.length + 1
  | .lit _ => 1
  | .nil => 1
  | .ptr d => uptoBulk d + 1
  | .slice elems spare => uptoBulkAll elems + uptoBulkAll spare + 1
  | .agg parts => uptoBulkAll parts + 1
  | .iface _ d => uptoBulk d + 1
  | .map entries => uptoBulkEntries entries + 1
  | .held _ => 1
def uptoBulkAll {H : Type} : List (DataW H) → Nat
  | [] => 0
  | d :: r => uptoBulk d + uptoBulkAll r
def uptoBulkEntries {H : Type} : List (Lit × DataW H) → Nat
  | [] => 0
  | x :: r => uptoBulkEntry x + uptoBulkEntries r
def uptoBulkEntry {H : Type} : Lit × DataW H → Nat
  | (.string bytes, d) => bytes.length + uptoBulk d + 1
  | (_, d) => uptoBulk d + 1
 end
def uptoSmall : (H : Type) → List (DataW H) → Bool := fun _ ds => decide (uptoBulkAll ds ≤ 1048576)
def OpenSpec.upto (s : _root_.Go.ChangeSpec) : _root_.Go.OpenSpec := { _root_.Go.OpenSpec.ofChange s with cond := some uptoSmall }

/-- 'copselaw22.ItemScores', WHERE WHAT IT READS IS OF BULK AT MOST 1048576: true; the input reads as it did. -/
def itemScoresUptoRow : OpenClaim := { program := "ytpoemflclbhekaagreat", sum := "38489867e6e9ae3e60e8ea5598bc27d0428632e750c395c8132b46c45cad2d63", func := "copse/copselaw22.ItemScores", spec := "itemScores", unfollowed := true, recurses := true, apart := false, narrowed := true }
def ItemScoresUptoSaid : Prop := itemScoresUptoRow.holds Tryz.pinned (OpenSpec.upto itemScoresSpec)

/-- 'copselaw22.ItemSeens', WHERE WHAT IT READS IS OF BULK AT MOST 1048576: true; the input reads as it did. -/
def itemSeensUptoRow : OpenClaim := { program := "ytpoemflclbhekaagreat", sum := "38489867e6e9ae3e60e8ea5598bc27d0428632e750c395c8132b46c45cad2d63", func := "copse/copselaw22.ItemSeens", spec := "itemSeens", unfollowed := true, recurses := true, apart := false, narrowed := true }
def ItemSeensUptoSaid : Prop := itemSeensUptoRow.holds Tryz.pinned (OpenSpec.upto itemSeensSpec)

end Rows
end Go.Proofs.YtpoemflclbhekaaGreat
