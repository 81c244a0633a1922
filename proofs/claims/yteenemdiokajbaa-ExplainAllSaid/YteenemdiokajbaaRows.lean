/-
  No cell of these rows narrows 'for every input' (looked for: loops, veiled, ifaces, maps, wideKeys, modest, calm, conditions, laid).
  DERIVED. THE GIVEN ROWS OF THIS SEAT. 6 by the template 'for every input the law returns true; each argument reads behind the call as it read before'; 0 by the template 'total and deterministic' (their statements: YteenemdiokajbaaTotals.lean).
  GIVEN WITH THE SEED: the statements are not yours to turn. If you find one false, say at which input.
  Laid BY PROGRAM, IN A SANDBOX (cutbox-rows.mjs): the forced cells as the released guide's own fill.sh prints them over the translation bbd3fc9b9c86cc1f… (all of the seat's roots in one cut). By AI agents, Wed Nov 11 2026. No macro, syntax, notation, axiom, sorry.
-/
import Derived.Test.YteenemdiokajbaaChecked
import GoSem.Claim
import GoSem.ClaimJoined
import GoSem.ClaimMapViews
import Derived.JoinedTies
import Derived.KernelRfl
namespace Go.Proofs.Yteenemdiokajbaa
/- THE CELL 'sum', in the pinned program and in every row, IS THE sha256 OF THE DUMP (.gsa) THAT YteenemdiokajbaaProg.lean LOADS. Nothing in Lean hashes anything: it is a label: what it is worth is what the hold of that sum in a sandbox is worth. -/
noncomputable def Try.pinned : Pinned := { name := "yteenemdiokajbaa", sum := "bbd3fc9b9c86cc1fc339545145f9fdf8b1e9567f317d058e1d5fb8a3461d2544", checked := Try.checked }
namespace Rows
def none {H : Type} : Left H := { results := [], args := [] }

/-- 'copselaw16.ExplainTells': WHATEVER THE INPUT: true; the input reads as it did. -/
def explainTellsSpec : ChangeSpec := { name := "explainTells", fn := fun _ => fun
  | [d1, d2, d3] => { results := [.lit (.bool true)], args := [d1, d2, d3] }
  | _ => none }
def explainTellsRow : OpenClaim := { program := "yteenemdiokajbaa", sum := "bbd3fc9b9c86cc1fc339545145f9fdf8b1e9567f317d058e1d5fb8a3461d2544", func := "copse/copselaw16.ExplainTells", spec := "explainTells", unfollowed := true, recurses := true, apart := false }
def ExplainTellsSaid : Prop := explainTellsRow.holds Try.pinned (OpenSpec.ofChange explainTellsSpec)

/-- ITS FALSE NEIGHBOUR: 'it returns false'. Refute it at one input. -/
def explainTellsWrong : ChangeSpec := { name := "explainTells", fn := fun _ => fun
  | [d1, d2, d3] => { results := [.lit (.bool false)], args := [d1, d2, d3] }
  | _ => none }
def ExplainTellsWrongFalsely : Prop := explainTellsRow.holds Try.pinned (OpenSpec.ofChange explainTellsWrong)

/-- 'copselaw16.ExplainRooms': WHATEVER THE INPUT: true; the input reads as it did. -/
def explainRoomsSpec : ChangeSpec := { name := "explainRooms", fn := fun _ => fun
  | [d1, d2, d3, d4] => { results := [.lit (.bool true)], args := [d1, d2, d3, d4] }
  | _ => none }
def explainRoomsRow : OpenClaim := { program := "yteenemdiokajbaa", sum := "bbd3fc9b9c86cc1fc339545145f9fdf8b1e9567f317d058e1d5fb8a3461d2544", func := "copse/copselaw16.ExplainRooms", spec := "explainRooms", unfollowed := true, recurses := true, apart := false }
def ExplainRoomsSaid : Prop := explainRoomsRow.holds Try.pinned (OpenSpec.ofChange explainRoomsSpec)

/-- ITS FALSE NEIGHBOUR: 'it returns false'. Refute it at one input. -/
def explainRoomsWrong : ChangeSpec := { name := "explainRooms", fn := fun _ => fun
  | [d1, d2, d3, d4] => { results := [.lit (.bool false)], args := [d1, d2, d3, d4] }
  | _ => none }
def ExplainRoomsWrongFalsely : Prop := explainRoomsRow.holds Try.pinned (OpenSpec.ofChange explainRoomsWrong)

/-- 'copselaw16.ExplainAll': WHATEVER THE INPUT: true; the input reads as it did. -/
def explainAllSpec : ChangeSpec := { name := "explainAll", fn := fun _ => fun
  | [d1, d2] => { results := [.lit (.bool true)], args := [d1, d2] }
  | _ => none }
def explainAllRow : OpenClaim := { program := "yteenemdiokajbaa", sum := "bbd3fc9b9c86cc1fc339545145f9fdf8b1e9567f317d058e1d5fb8a3461d2544", func := "copse/copselaw16.ExplainAll", spec := "explainAll", unfollowed := true, recurses := true, apart := false }
def ExplainAllSaid : Prop := explainAllRow.holds Try.pinned (OpenSpec.ofChange explainAllSpec)

/-- ITS FALSE NEIGHBOUR: 'it returns false'. Refute it at one input. -/
def explainAllWrong : ChangeSpec := { name := "explainAll", fn := fun _ => fun
  | [d1, d2] => { results := [.lit (.bool false)], args := [d1, d2] }
  | _ => none }
def ExplainAllWrongFalsely : Prop := explainAllRow.holds Try.pinned (OpenSpec.ofChange explainAllWrong)

/-- 'copselaw16.ExplainKeeps': WHATEVER THE INPUT: true; the input reads as it did. -/
def explainKeepsSpec : ChangeSpec := { name := "explainKeeps", fn := fun _ => fun
  | [d1, d2, d3, d4] => { results := [.lit (.bool true)], args := [d1, d2, d3, d4] }
  | _ => none }
def explainKeepsRow : OpenClaim := { program := "yteenemdiokajbaa", sum := "bbd3fc9b9c86cc1fc339545145f9fdf8b1e9567f317d058e1d5fb8a3461d2544", func := "copse/copselaw16.ExplainKeeps", spec := "explainKeeps", unfollowed := true, recurses := true, apart := false }
def ExplainKeepsSaid : Prop := explainKeepsRow.holds Try.pinned (OpenSpec.ofChange explainKeepsSpec)

/-- ITS FALSE NEIGHBOUR: 'it returns false'. Refute it at one input. -/
def explainKeepsWrong : ChangeSpec := { name := "explainKeeps", fn := fun _ => fun
  | [d1, d2, d3, d4] => { results := [.lit (.bool false)], args := [d1, d2, d3, d4] }
  | _ => none }
def ExplainKeepsWrongFalsely : Prop := explainKeepsRow.holds Try.pinned (OpenSpec.ofChange explainKeepsWrong)

/-- 'copselaw17.RingDoes': WHATEVER THE INPUT: true; the input reads as it did. -/
def ringDoesSpec : ChangeSpec := { name := "ringDoes", fn := fun _ => fun
  | [d1, d2, d3, d4] => { results := [.lit (.bool true)], args := [d1, d2, d3, d4] }
  | _ => none }
def ringDoesRow : OpenClaim := { program := "yteenemdiokajbaa", sum := "bbd3fc9b9c86cc1fc339545145f9fdf8b1e9567f317d058e1d5fb8a3461d2544", func := "copse/copselaw17.RingDoes", spec := "ringDoes", unfollowed := true, recurses := true, apart := false }
def RingDoesSaid : Prop := ringDoesRow.holds Try.pinned (OpenSpec.ofChange ringDoesSpec)

/-- ITS FALSE NEIGHBOUR: 'it returns false'. Refute it at one input. -/
def ringDoesWrong : ChangeSpec := { name := "ringDoes", fn := fun _ => fun
  | [d1, d2, d3, d4] => { results := [.lit (.bool false)], args := [d1, d2, d3, d4] }
  | _ => none }
def RingDoesWrongFalsely : Prop := ringDoesRow.holds Try.pinned (OpenSpec.ofChange ringDoesWrong)

/-- 'copselaw17.RingLast': WHATEVER THE INPUT: true; the input reads as it did. -/
def ringLastSpec : ChangeSpec := { name := "ringLast", fn := fun _ => fun
  | [d1, d2] => { results := [.lit (.bool true)], args := [d1, d2] }
  | _ => none }
def ringLastRow : OpenClaim := { program := "yteenemdiokajbaa", sum := "bbd3fc9b9c86cc1fc339545145f9fdf8b1e9567f317d058e1d5fb8a3461d2544", func := "copse/copselaw17.RingLast", spec := "ringLast", unfollowed := true, recurses := true, apart := false }
def RingLastSaid : Prop := ringLastRow.holds Try.pinned (OpenSpec.ofChange ringLastSpec)

/-- ITS FALSE NEIGHBOUR: 'it returns false'. Refute it at one input. -/
def ringLastWrong : ChangeSpec := { name := "ringLast", fn := fun _ => fun
  | [d1, d2] => { results := [.lit (.bool false)], args := [d1, d2] }
  | _ => none }
def RingLastWrongFalsely : Prop := ringLastRow.holds Try.pinned (OpenSpec.ofChange ringLastWrong)

/- THE SECOND FORM. 'bulk': how many values and letters a reading holds, each counted each time it is reached (what is shared counts as often as it is met; a slice's spare places count too). A statement '..UptoSaid' is the law's where the arguments, and the package variables that the reading takes, are together of bulk at most 1048576: NARROWER than '..Said'. Prove '..Said' where nothing that the law and all that it calls make is longer than what came in: it says more and counts as full. Else prove '..UptoSaid'. A law counts once. -/
mutual
def uptoBulk {H : Type} : DataW H → Nat
  | .lit (.string bytes) => bytes.length + 1
  | .lit _ => 1
  | .nil => 1
  | .ptr d => uptoBulk d + 1
  | .slice elems spare => uptoBulkAll elems + uptoBulkAll spare + 1
  | .agg parts => uptoBulkAll parts + 1
  | .iface _ d => uptoBulk d + 1
  | .map entries => uptoBulkEntries entries + 1
  | .held _ => 1
def uptoBulkAll {H : Type} : List (DataW H) → Nat
  | [] => 0
  | d :: r => uptoBulk d + uptoBulkAll r
def uptoBulkEntries {H : Type} : List (Lit × DataW H) → Nat
  | [] => 0
  | x :: r => uptoBulkEntry x + uptoBulkEntries r
def uptoBulkEntry {H : Type} : Lit × DataW H → Nat
  | (.string bytes, d) => bytes.length + uptoBulk d + 1
  | (_, d) => uptoBulk d + 1
 end
def uptoSmall : (H : Type) → List (DataW H) → Bool := fun _ ds => decide (uptoBulkAll ds ≤ 1048576)
def OpenSpec.upto (s : _root_.Go.ChangeSpec) : _root_.Go.OpenSpec := { _root_.Go.OpenSpec.ofChange s with cond := some uptoSmall }

/-- 'copselaw16.ExplainTells', WHERE WHAT IT READS IS OF BULK AT MOST 1048576: true; the input reads as it did. -/
def explainTellsUptoRow : OpenClaim := { program := "yteenemdiokajbaa", sum := "bbd3fc9b9c86cc1fc339545145f9fdf8b1e9567f317d058e1d5fb8a3461d2544", func := "copse/copselaw16.ExplainTells", spec := "explainTells", unfollowed := true, recurses := true, apart := false, narrowed := true }
def ExplainTellsUptoSaid : Prop := explainTellsUptoRow.holds Try.pinned (OpenSpec.upto explainTellsSpec)

/-- 'copselaw16.ExplainRooms', WHERE WHAT IT READS IS OF BULK AT MOST 1048576: true; the input reads as it did. -/
def explainRoomsUptoRow : OpenClaim := { program := "yteenemdiokajbaa", sum := "bbd3fc9b9c86cc1fc339545145f9fdf8b1e9567f317d058e1d5fb8a3461d2544", func := "copse/copselaw16.ExplainRooms", spec := "explainRooms", unfollowed := true, recurses := true, apart := false, narrowed := true }
def ExplainRoomsUptoSaid : Prop := explainRoomsUptoRow.holds Try.pinned (OpenSpec.upto explainRoomsSpec)

/-- 'copselaw16.ExplainAll', WHERE WHAT IT READS IS OF BULK AT MOST 1048576: true; the input reads as it did. -/
def explainAllUptoRow : OpenClaim := { program := "yteenemdiokajbaa", sum := "bbd3fc9b9c86cc1fc339545145f9fdf8b1e9567f317d058e1d5fb8a3461d2544", func := "copse/copselaw16.ExplainAll", spec := "explainAll", unfollowed := true, recurses := true, apart := false, narrowed := true }
def ExplainAllUptoSaid : Prop := explainAllUptoRow.holds Try.pinned (OpenSpec.upto explainAllSpec)

/-- 'copselaw16.ExplainKeeps', WHERE WHAT IT READS IS OF BULK AT MOST 1048576: true; the input reads as it did. -/
def explainKeepsUptoRow : OpenClaim := { program := "yteenemdiokajbaa", sum := "bbd3fc9b9c86cc1fc339545145f9fdf8b1e9567f317d058e1d5fb8a3461d2544", func := "copse/copselaw16.ExplainKeeps", spec := "explainKeeps", unfollowed := true, recurses := true, apart := false, narrowed := true }
def ExplainKeepsUptoSaid : Prop := explainKeepsUptoRow.holds Try.pinned (OpenSpec.upto explainKeepsSpec)

/-- 'copselaw17.RingDoes', WHERE WHAT IT READS IS OF BULK AT MOST 1048576: true; the input reads as it did. -/
def ringDoesUptoRow : OpenClaim := { program := "yteenemdiokajbaa", sum := "bbd3fc9b9c86cc1fc339545145f9fdf8b1e9567f317d058e1d5fb8a3461d2544", func := "copse/copselaw17.RingDoes", spec := "ringDoes", unfollowed := true, recurses := true, apart := false, narrowed := true }
def RingDoesUptoSaid : Prop := ringDoesUptoRow.holds Try.pinned (OpenSpec.upto ringDoesSpec)

/-- 'copselaw17.RingLast', WHERE WHAT IT READS IS OF BULK AT MOST 1048576: true; the input reads as it did. -/
def ringLastUptoRow : OpenClaim := { program := "yteenemdiokajbaa", sum := "bbd3fc9b9c86cc1fc339545145f9fdf8b1e9567f317d058e1d5fb8a3461d2544", func := "copse/copselaw17.RingLast", spec := "ringLast", unfollowed := true, recurses := true, apart := false, narrowed := true }
def RingLastUptoSaid : Prop := ringLastUptoRow.holds Try.pinned (OpenSpec.upto ringLastSpec)

end Rows
end Go.Proofs.Yteenemdiokajbaa
