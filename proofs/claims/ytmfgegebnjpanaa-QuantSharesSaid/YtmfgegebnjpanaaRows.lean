/-
  No cell of these rows narrows 'for every input' (looked for: loops, veiled, ifaces, maps, wideKeys, modest, calm, conditions, laid).
  DERIVED. THE GIVEN ROWS OF THIS SEAT. 13 by the template 'for every input the law returns true; each argument reads behind the call as it read before'; 0 by the template 'total and deterministic' (their statements: YtmfgegebnjpanaaTotals.lean).
  GIVEN WITH THE SEED: the statements are not yours to turn. If you find one false, say at which input.
  Laid BY PROGRAM, IN A SANDBOX (cutbox-rows.mjs): the forced cells as the released guide's own fill.sh prints them over the translation c84a70cca2e9c763… (all of the seat's roots in one cut). By AI agents, Wed Nov 11 2026. No macro, syntax, notation, axiom, sorry.
-/
import Derived.Test.YtmfgegebnjpanaaChecked
import GoSem.Claim
import GoSem.ClaimJoined
import GoSem.ClaimMapViews
import Derived.JoinedTies
import Derived.KernelRfl
namespace Go.Proofs.Ytmfgegebnjpanaa
/- THE CELL 'sum', in the pinned program and in every row, IS THE sha256 OF THE DUMP (.gsa) THAT YtmfgegebnjpanaaProg.lean LOADS. Nothing in Lean hashes anything: it is a label: what it is worth is what the hold of that sum in a sandbox is worth. -/
noncomputable def Try.pinned : Pinned := { name := "ytmfgegebnjpanaa", sum := "c84a70cca2e9c76363cf8d918ddcdce5d9fe1fc9a3b0861ba041211fcd599f95", checked := Try.checked }
namespace Rows
def none {H : Type} : Left H := { results := [], args := [] }

/-- 'copselaw17.RingDoes': WHATEVER THE INPUT: true; the input reads as it did. -/
def ringDoesSpec : ChangeSpec := { name := "ringDoes", fn := fun _ => fun
  | [d1, d2, d3, d4] => { results := [.lit (.bool true)], args := [d1, d2, d3, d4] }
  | _ => none }
def ringDoesRow : OpenClaim := { program := "ytmfgegebnjpanaa", sum := "c84a70cca2e9c76363cf8d918ddcdce5d9fe1fc9a3b0861ba041211fcd599f95", func := "copse/copselaw17.RingDoes", spec := "ringDoes", unfollowed := true, recurses := true, apart := false }
def RingDoesSaid : Prop := ringDoesRow.holds Try.pinned (OpenSpec.ofChange ringDoesSpec)

/-- ITS FALSE NEIGHBOUR: 'it returns false'. Refute it at one input. -/
def ringDoesWrong : ChangeSpec := { name := "ringDoes", fn := fun _ => fun
  | [d1, d2, d3, d4] => { results := [.lit (.bool false)], args := [d1, d2, d3, d4] }
  | _ => none }
def RingDoesWrongFalsely : Prop := ringDoesRow.holds Try.pinned (OpenSpec.ofChange ringDoesWrong)

/-- 'copselaw17.RingLast': WHATEVER THE INPUT: true; the input reads as it did. -/
def ringLastSpec : ChangeSpec := { name := "ringLast", fn := fun _ => fun
  | [d1, d2] => { results := [.lit (.bool true)], args := [d1, d2] }
  | _ => none }
def ringLastRow : OpenClaim := { program := "ytmfgegebnjpanaa", sum := "c84a70cca2e9c76363cf8d918ddcdce5d9fe1fc9a3b0861ba041211fcd599f95", func := "copse/copselaw17.RingLast", spec := "ringLast", unfollowed := true, recurses := true, apart := false }
def RingLastSaid : Prop := ringLastRow.holds Try.pinned (OpenSpec.ofChange ringLastSpec)

/-- ITS FALSE NEIGHBOUR: 'it returns false'. Refute it at one input. -/
def ringLastWrong : ChangeSpec := { name := "ringLast", fn := fun _ => fun
  | [d1, d2] => { results := [.lit (.bool false)], args := [d1, d2] }
  | _ => none }
def RingLastWrongFalsely : Prop := ringLastRow.holds Try.pinned (OpenSpec.ofChange ringLastWrong)

/-- 'copselaw18.BagDoes': WHATEVER THE INPUT: true; the input reads as it did. -/
def bagDoesSpec : ChangeSpec := { name := "bagDoes", fn := fun _ => fun
  | [d1, d2, d3] => { results := [.lit (.bool true)], args := [d1, d2, d3] }
  | _ => none }
def bagDoesRow : OpenClaim := { program := "ytmfgegebnjpanaa", sum := "c84a70cca2e9c76363cf8d918ddcdce5d9fe1fc9a3b0861ba041211fcd599f95", func := "copse/copselaw18.BagDoes", spec := "bagDoes", inPlace := ["slices.overlaps[[]copse/api.Score]"], unfollowed := true, recurses := true, apart := false }
def BagDoesSaid : Prop := bagDoesRow.holds Try.pinned (OpenSpec.ofChange bagDoesSpec)

/-- ITS FALSE NEIGHBOUR: 'it returns false'. Refute it at one input. -/
def bagDoesWrong : ChangeSpec := { name := "bagDoes", fn := fun _ => fun
  | [d1, d2, d3] => { results := [.lit (.bool false)], args := [d1, d2, d3] }
  | _ => none }
def BagDoesWrongFalsely : Prop := bagDoesRow.holds Try.pinned (OpenSpec.ofChange bagDoesWrong)

/-- 'copselaw18.BagOrders': WHATEVER THE INPUT: true; the input reads as it did. -/
def bagOrdersSpec : ChangeSpec := { name := "bagOrders", fn := fun _ => fun
  | [d1, d2] => { results := [.lit (.bool true)], args := [d1, d2] }
  | _ => none }
def bagOrdersRow : OpenClaim := { program := "ytmfgegebnjpanaa", sum := "c84a70cca2e9c76363cf8d918ddcdce5d9fe1fc9a3b0861ba041211fcd599f95", func := "copse/copselaw18.BagOrders", spec := "bagOrders", inPlace := ["slices.overlaps[[]copse/api.Score]"], unfollowed := true, recurses := true, apart := false }
def BagOrdersSaid : Prop := bagOrdersRow.holds Try.pinned (OpenSpec.ofChange bagOrdersSpec)

/-- ITS FALSE NEIGHBOUR: 'it returns false'. Refute it at one input. -/
def bagOrdersWrong : ChangeSpec := { name := "bagOrders", fn := fun _ => fun
  | [d1, d2] => { results := [.lit (.bool false)], args := [d1, d2] }
  | _ => none }
def BagOrdersWrongFalsely : Prop := bagOrdersRow.holds Try.pinned (OpenSpec.ofChange bagOrdersWrong)

/-- 'copselaw18.BagRanks': WHATEVER THE INPUT: true; the input reads as it did. -/
def bagRanksSpec : ChangeSpec := { name := "bagRanks", fn := fun _ => fun
  | [d] => { results := [.lit (.bool true)], args := [d] }
  | _ => none }
def bagRanksRow : OpenClaim := { program := "ytmfgegebnjpanaa", sum := "c84a70cca2e9c76363cf8d918ddcdce5d9fe1fc9a3b0861ba041211fcd599f95", func := "copse/copselaw18.BagRanks", spec := "bagRanks", inPlace := ["slices.overlaps[[]copse/api.Score]"], unfollowed := true, recurses := true, apart := false }
def BagRanksSaid : Prop := bagRanksRow.holds Try.pinned (OpenSpec.ofChange bagRanksSpec)

/-- ITS FALSE NEIGHBOUR: 'it returns false'. Refute it at one input. -/
def bagRanksWrong : ChangeSpec := { name := "bagRanks", fn := fun _ => fun
  | [d] => { results := [.lit (.bool false)], args := [d] }
  | _ => none }
def BagRanksWrongFalsely : Prop := bagRanksRow.holds Try.pinned (OpenSpec.ofChange bagRanksWrong)

/-- 'copselaw19.QuantPlaces': WHATEVER THE INPUT: true; the input reads as it did. -/
def quantPlacesSpec : ChangeSpec := { name := "quantPlaces", fn := fun _ => fun
  | [d1, d2, d3] => { results := [.lit (.bool true)], args := [d1, d2, d3] }
  | _ => none }
def quantPlacesRow : OpenClaim := { program := "ytmfgegebnjpanaa", sum := "c84a70cca2e9c76363cf8d918ddcdce5d9fe1fc9a3b0861ba041211fcd599f95", func := "copse/copselaw19.QuantPlaces", spec := "quantPlaces", unfollowed := true, recurses := true, apart := false }
def QuantPlacesSaid : Prop := quantPlacesRow.holds Try.pinned (OpenSpec.ofChange quantPlacesSpec)

/-- ITS FALSE NEIGHBOUR: 'it returns false'. Refute it at one input. -/
def quantPlacesWrong : ChangeSpec := { name := "quantPlaces", fn := fun _ => fun
  | [d1, d2, d3] => { results := [.lit (.bool false)], args := [d1, d2, d3] }
  | _ => none }
def QuantPlacesWrongFalsely : Prop := quantPlacesRow.holds Try.pinned (OpenSpec.ofChange quantPlacesWrong)

/-- 'copselaw19.QuantLines': WHATEVER THE INPUT: true; the input reads as it did. -/
def quantLinesSpec : ChangeSpec := { name := "quantLines", fn := fun _ => fun
  | [d1, d2, d3] => { results := [.lit (.bool true)], args := [d1, d2, d3] }
  | _ => none }
def quantLinesRow : OpenClaim := { program := "ytmfgegebnjpanaa", sum := "c84a70cca2e9c76363cf8d918ddcdce5d9fe1fc9a3b0861ba041211fcd599f95", func := "copse/copselaw19.QuantLines", spec := "quantLines", inPlace := ["slices.overlaps[[]copse/api.Score]"], unfollowed := true, recurses := true, apart := false }
def QuantLinesSaid : Prop := quantLinesRow.holds Try.pinned (OpenSpec.ofChange quantLinesSpec)

/-- ITS FALSE NEIGHBOUR: 'it returns false'. Refute it at one input. -/
def quantLinesWrong : ChangeSpec := { name := "quantLines", fn := fun _ => fun
  | [d1, d2, d3] => { results := [.lit (.bool false)], args := [d1, d2, d3] }
  | _ => none }
def QuantLinesWrongFalsely : Prop := quantLinesRow.holds Try.pinned (OpenSpec.ofChange quantLinesWrong)

/-- 'copselaw19.QuantOvers': WHATEVER THE INPUT: true; the input reads as it did. -/
def quantOversSpec : ChangeSpec := { name := "quantOvers", fn := fun _ => fun
  | [d1, d2, d3] => { results := [.lit (.bool true)], args := [d1, d2, d3] }
  | _ => none }
def quantOversRow : OpenClaim := { program := "ytmfgegebnjpanaa", sum := "c84a70cca2e9c76363cf8d918ddcdce5d9fe1fc9a3b0861ba041211fcd599f95", func := "copse/copselaw19.QuantOvers", spec := "quantOvers", unfollowed := true, recurses := true, apart := false }
def QuantOversSaid : Prop := quantOversRow.holds Try.pinned (OpenSpec.ofChange quantOversSpec)

/-- ITS FALSE NEIGHBOUR: 'it returns false'. Refute it at one input. -/
def quantOversWrong : ChangeSpec := { name := "quantOvers", fn := fun _ => fun
  | [d1, d2, d3] => { results := [.lit (.bool false)], args := [d1, d2, d3] }
  | _ => none }
def QuantOversWrongFalsely : Prop := quantOversRow.holds Try.pinned (OpenSpec.ofChange quantOversWrong)

/-- 'copselaw19.QuantShares': WHATEVER THE INPUT: true; the input reads as it did. -/
def quantSharesSpec : ChangeSpec := { name := "quantShares", fn := fun _ => fun
  | [d1, d2, d3] => { results := [.lit (.bool true)], args := [d1, d2, d3] }
  | _ => none }
def quantSharesRow : OpenClaim := { program := "ytmfgegebnjpanaa", sum := "c84a70cca2e9c76363cf8d918ddcdce5d9fe1fc9a3b0861ba041211fcd599f95", func := "copse/copselaw19.QuantShares", spec := "quantShares", unfollowed := true, recurses := true, apart := false }
def QuantSharesSaid : Prop := quantSharesRow.holds Try.pinned (OpenSpec.ofChange quantSharesSpec)

/-- ITS FALSE NEIGHBOUR: 'it returns false'. Refute it at one input. -/
def quantSharesWrong : ChangeSpec := { name := "quantShares", fn := fun _ => fun
  | [d1, d2, d3] => { results := [.lit (.bool false)], args := [d1, d2, d3] }
  | _ => none }
def QuantSharesWrongFalsely : Prop := quantSharesRow.holds Try.pinned (OpenSpec.ofChange quantSharesWrong)

/-- 'copselaw20.SchedRights': WHATEVER THE INPUT: true; the input reads as it did. -/
def schedRightsSpec : ChangeSpec := { name := "schedRights", fn := fun _ => fun
  | [d1, d2, d3] => { results := [.lit (.bool true)], args := [d1, d2, d3] }
  | _ => none }
def schedRightsRow : OpenClaim := { program := "ytmfgegebnjpanaa", sum := "c84a70cca2e9c76363cf8d918ddcdce5d9fe1fc9a3b0861ba041211fcd599f95", func := "copse/copselaw20.SchedRights", spec := "schedRights", apart := false }
def SchedRightsSaid : Prop := schedRightsRow.holds Try.pinned (OpenSpec.ofChange schedRightsSpec)

/-- ITS FALSE NEIGHBOUR: 'it returns false'. Refute it at one input. -/
def schedRightsWrong : ChangeSpec := { name := "schedRights", fn := fun _ => fun
  | [d1, d2, d3] => { results := [.lit (.bool false)], args := [d1, d2, d3] }
  | _ => none }
def SchedRightsWrongFalsely : Prop := schedRightsRow.holds Try.pinned (OpenSpec.ofChange schedRightsWrong)

/-- 'copselaw20.SchedNexts': WHATEVER THE INPUT: true; the input reads as it did. -/
def schedNextsSpec : ChangeSpec := { name := "schedNexts", fn := fun _ => fun
  | [d1, d2, d3] => { results := [.lit (.bool true)], args := [d1, d2, d3] }
  | _ => none }
def schedNextsRow : OpenClaim := { program := "ytmfgegebnjpanaa", sum := "c84a70cca2e9c76363cf8d918ddcdce5d9fe1fc9a3b0861ba041211fcd599f95", func := "copse/copselaw20.SchedNexts", spec := "schedNexts", apart := false }
def SchedNextsSaid : Prop := schedNextsRow.holds Try.pinned (OpenSpec.ofChange schedNextsSpec)

/-- ITS FALSE NEIGHBOUR: 'it returns false'. Refute it at one input. -/
def schedNextsWrong : ChangeSpec := { name := "schedNexts", fn := fun _ => fun
  | [d1, d2, d3] => { results := [.lit (.bool false)], args := [d1, d2, d3] }
  | _ => none }
def SchedNextsWrongFalsely : Prop := schedNextsRow.holds Try.pinned (OpenSpec.ofChange schedNextsWrong)

/-- 'copselaw20.SchedPlans': WHATEVER THE INPUT: true; the input reads as it did. -/
def schedPlansSpec : ChangeSpec := { name := "schedPlans", fn := fun _ => fun
  | [d1, d2, d3, d4] => { results := [.lit (.bool true)], args := [d1, d2, d3, d4] }
  | _ => none }
def schedPlansRow : OpenClaim := { program := "ytmfgegebnjpanaa", sum := "c84a70cca2e9c76363cf8d918ddcdce5d9fe1fc9a3b0861ba041211fcd599f95", func := "copse/copselaw20.SchedPlans", spec := "schedPlans", apart := false }
def SchedPlansSaid : Prop := schedPlansRow.holds Try.pinned (OpenSpec.ofChange schedPlansSpec)

/-- ITS FALSE NEIGHBOUR: 'it returns false'. Refute it at one input. -/
def schedPlansWrong : ChangeSpec := { name := "schedPlans", fn := fun _ => fun
  | [d1, d2, d3, d4] => { results := [.lit (.bool false)], args := [d1, d2, d3, d4] }
  | _ => none }
def SchedPlansWrongFalsely : Prop := schedPlansRow.holds Try.pinned (OpenSpec.ofChange schedPlansWrong)

/-- 'copselaw20.SchedRounds': WHATEVER THE INPUT: true; the input reads as it did. -/
def schedRoundsSpec : ChangeSpec := { name := "schedRounds", fn := fun _ => fun
  | [d1, d2] => { results := [.lit (.bool true)], args := [d1, d2] }
  | _ => none }
def schedRoundsRow : OpenClaim := { program := "ytmfgegebnjpanaa", sum := "c84a70cca2e9c76363cf8d918ddcdce5d9fe1fc9a3b0861ba041211fcd599f95", func := "copse/copselaw20.SchedRounds", spec := "schedRounds", apart := false }
def SchedRoundsSaid : Prop := schedRoundsRow.holds Try.pinned (OpenSpec.ofChange schedRoundsSpec)

/-- ITS FALSE NEIGHBOUR: 'it returns false'. Refute it at one input. -/
def schedRoundsWrong : ChangeSpec := { name := "schedRounds", fn := fun _ => fun
  | [d1, d2] => { results := [.lit (.bool false)], args := [d1, d2] }
  | _ => none }
def SchedRoundsWrongFalsely : Prop := schedRoundsRow.holds Try.pinned (OpenSpec.ofChange schedRoundsWrong)

/- THE SECOND FORM. 'bulk': how many values and letters a reading holds, each counted each time it is reached (what is shared counts as often as it is met; a slice's spare places count too). A statement '..UptoSaid' is the law's where the arguments, and the package variables that the reading takes, are together of bulk at most 1048576: NARROWER than '..Said'. Prove '..Said' where nothing that the law and all that it calls make is longer than what came in: it says more and counts as full. Else prove '..UptoSaid'. A law counts once. -/
mutual
def uptoBulk {H : Type} : DataW H → Nat
  | .lit (.string bytes) => bytes.length + 1
  | .lit _ => 1
  | .nil => 1
  | .ptr d => uptoBulk d + 1
  | .slice elems spare => uptoBulkAll elems + uptoBulkAll spare + 1
  | .agg parts => uptoBulkAll parts + 1
  | .iface _ d => uptoBulk d + 1
  | .map entries => uptoBulkEntries entries + 1
  | .held _ => 1
def uptoBulkAll {H : Type} : List (DataW H) → Nat
  | [] => 0
  | d :: r => uptoBulk d + uptoBulkAll r
def uptoBulkEntries {H : Type} : List (Lit × DataW H) → Nat
  | [] => 0
  | x :: r => uptoBulkEntry x + uptoBulkEntries r
def uptoBulkEntry {H : Type} : Lit × DataW H → Nat
  | (.string bytes, d) => bytes.length + uptoBulk d + 1
  | (_, d) => uptoBulk d + 1
 end
def uptoSmall : (H : Type) → List (DataW H) → Bool := fun _ ds => decide (uptoBulkAll ds ≤ 1048576)
def OpenSpec.upto (s : _root_.Go.ChangeSpec) : _root_.Go.OpenSpec := { _root_.Go.OpenSpec.ofChange s with cond := some uptoSmall }

/-- 'copselaw17.RingDoes', WHERE WHAT IT READS IS OF BULK AT MOST 1048576: true; the input reads as it did. -/
def ringDoesUptoRow : OpenClaim := { program := "ytmfgegebnjpanaa", sum := "c84a70cca2e9c76363cf8d918ddcdce5d9fe1fc9a3b0861ba041211fcd599f95", func := "copse/copselaw17.RingDoes", spec := "ringDoes", unfollowed := true, recurses := true, apart := false, narrowed := true }
def RingDoesUptoSaid : Prop := ringDoesUptoRow.holds Try.pinned (OpenSpec.upto ringDoesSpec)

/-- 'copselaw17.RingLast', WHERE WHAT IT READS IS OF BULK AT MOST 1048576: true; the input reads as it did. -/
def ringLastUptoRow : OpenClaim := { program := "ytmfgegebnjpanaa", sum := "c84a70cca2e9c76363cf8d918ddcdce5d9fe1fc9a3b0861ba041211fcd599f95", func := "copse/copselaw17.RingLast", spec := "ringLast", unfollowed := true, recurses := true, apart := false, narrowed := true }
def RingLastUptoSaid : Prop := ringLastUptoRow.holds Try.pinned (OpenSpec.upto ringLastSpec)

/-- 'copselaw18.BagDoes', WHERE WHAT IT READS IS OF BULK AT MOST 1048576: true; the input reads as it did. -/
def bagDoesUptoRow : OpenClaim := { program := "ytmfgegebnjpanaa", sum := "c84a70cca2e9c76363cf8d918ddcdce5d9fe1fc9a3b0861ba041211fcd599f95", func := "copse/copselaw18.BagDoes", spec := "bagDoes", inPlace := ["slices.overlaps[[]copse/api.Score]"], unfollowed := true, recurses := true, apart := false, narrowed := true }
def BagDoesUptoSaid : Prop := bagDoesUptoRow.holds Try.pinned (OpenSpec.upto bagDoesSpec)

/-- 'copselaw18.BagOrders', WHERE WHAT IT READS IS OF BULK AT MOST 1048576: true; the input reads as it did. -/
def bagOrdersUptoRow : OpenClaim := { program := "ytmfgegebnjpanaa", sum := "c84a70cca2e9c76363cf8d918ddcdce5d9fe1fc9a3b0861ba041211fcd599f95", func := "copse/copselaw18.BagOrders", spec := "bagOrders", inPlace := ["slices.overlaps[[]copse/api.Score]"], unfollowed := true, recurses := true, apart := false, narrowed := true }
def BagOrdersUptoSaid : Prop := bagOrdersUptoRow.holds Try.pinned (OpenSpec.upto bagOrdersSpec)

/-- 'copselaw18.BagRanks', WHERE WHAT IT READS IS OF BULK AT MOST 1048576: true; the input reads as it did. -/
def bagRanksUptoRow : OpenClaim := { program := "ytmfgegebnjpanaa", sum := "c84a70cca2e9c76363cf8d918ddcdce5d9fe1fc9a3b0861ba041211fcd599f95", func := "copse/copselaw18.BagRanks", spec := "bagRanks", inPlace := ["slices.overlaps[[]copse/api.Score]"], unfollowed := true, recurses := true, apart := false, narrowed := true }
def BagRanksUptoSaid : Prop := bagRanksUptoRow.holds Try.pinned (OpenSpec.upto bagRanksSpec)

/-- 'copselaw19.QuantPlaces', WHERE WHAT IT READS IS OF BULK AT MOST 1048576: true; the input reads as it did. -/
def quantPlacesUptoRow : OpenClaim := { program := "ytmfgegebnjpanaa", sum := "c84a70cca2e9c76363cf8d918ddcdce5d9fe1fc9a3b0861ba041211fcd599f95", func := "copse/copselaw19.QuantPlaces", spec := "quantPlaces", unfollowed := true, recurses := true, apart := false, narrowed := true }
def QuantPlacesUptoSaid : Prop := quantPlacesUptoRow.holds Try.pinned (OpenSpec.upto quantPlacesSpec)

/-- 'copselaw19.QuantLines', WHERE WHAT IT READS IS OF BULK AT MOST 1048576: true; the input reads as it did. -/
def quantLinesUptoRow : OpenClaim := { program := "ytmfgegebnjpanaa", sum := "c84a70cca2e9c76363cf8d918ddcdce5d9fe1fc9a3b0861ba041211fcd599f95", func := "copse/copselaw19.QuantLines", spec := "quantLines", inPlace := ["slices.overlaps[[]copse/api.Score]"], unfollowed := true, recurses := true, apart := false, narrowed := true }
def QuantLinesUptoSaid : Prop := quantLinesUptoRow.holds Try.pinned (OpenSpec.upto quantLinesSpec)

/-- 'copselaw19.QuantOvers', WHERE WHAT IT READS IS OF BULK AT MOST 1048576: true; the input reads as it did. -/
def quantOversUptoRow : OpenClaim := { program := "ytmfgegebnjpanaa", sum := "c84a70cca2e9c76363cf8d918ddcdce5d9fe1fc9a3b0861ba041211fcd599f95", func := "copse/copselaw19.QuantOvers", spec := "quantOvers", unfollowed := true, recurses := true, apart := false, narrowed := true }
def QuantOversUptoSaid : Prop := quantOversUptoRow.holds Try.pinned (OpenSpec.upto quantOversSpec)

/-- 'copselaw19.QuantShares', WHERE WHAT IT READS IS OF BULK AT MOST 1048576: true; the input reads as it did. -/
def quantSharesUptoRow : OpenClaim := { program := "ytmfgegebnjpanaa", sum := "c84a70cca2e9c76363cf8d918ddcdce5d9fe1fc9a3b0861ba041211fcd599f95", func := "copse/copselaw19.QuantShares", spec := "quantShares", unfollowed := true, recurses := true, apart := false, narrowed := true }
def QuantSharesUptoSaid : Prop := quantSharesUptoRow.holds Try.pinned (OpenSpec.upto quantSharesSpec)

/-- 'copselaw20.SchedRights', WHERE WHAT IT READS IS OF BULK AT MOST 1048576: true; the input reads as it did. -/
def schedRightsUptoRow : OpenClaim := { program := "ytmfgegebnjpanaa", sum := "c84a70cca2e9c76363cf8d918ddcdce5d9fe1fc9a3b0861ba041211fcd599f95", func := "copse/copselaw20.SchedRights", spec := "schedRights", apart := false, narrowed := true }
def SchedRightsUptoSaid : Prop := schedRightsUptoRow.holds Try.pinned (OpenSpec.upto schedRightsSpec)

/-- 'copselaw20.SchedNexts', WHERE WHAT IT READS IS OF BULK AT MOST 1048576: true; the input reads as it did. -/
def schedNextsUptoRow : OpenClaim := { program := "ytmfgegebnjpanaa", sum := "c84a70cca2e9c76363cf8d918ddcdce5d9fe1fc9a3b0861ba041211fcd599f95", func := "copse/copselaw20.SchedNexts", spec := "schedNexts", apart := false, narrowed := true }
def SchedNextsUptoSaid : Prop := schedNextsUptoRow.holds Try.pinned (OpenSpec.upto schedNextsSpec)

/-- 'copselaw20.SchedPlans', WHERE WHAT IT READS IS OF BULK AT MOST 1048576: true; the input reads as it did. -/
def schedPlansUptoRow : OpenClaim := { program := "ytmfgegebnjpanaa", sum := "c84a70cca2e9c76363cf8d918ddcdce5d9fe1fc9a3b0861ba041211fcd599f95", func := "copse/copselaw20.SchedPlans", spec := "schedPlans", apart := false, narrowed := true }
def SchedPlansUptoSaid : Prop := schedPlansUptoRow.holds Try.pinned (OpenSpec.upto schedPlansSpec)

/-- 'copselaw20.SchedRounds', WHERE WHAT IT READS IS OF BULK AT MOST 1048576: true; the input reads as it did. -/
def schedRoundsUptoRow : OpenClaim := { program := "ytmfgegebnjpanaa", sum := "c84a70cca2e9c76363cf8d918ddcdce5d9fe1fc9a3b0861ba041211fcd599f95", func := "copse/copselaw20.SchedRounds", spec := "schedRounds", apart := false, narrowed := true }
def SchedRoundsUptoSaid : Prop := schedRoundsUptoRow.holds Try.pinned (OpenSpec.upto schedRoundsSpec)

end Rows
end Go.Proofs.Ytmfgegebnjpanaa
