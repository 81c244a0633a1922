/-
  DERIVED. GIVEN WITH THE SEED: THE CARDS: each row of YtbnpbflndnjmcaaDoorRows.lean that lists a variable, with what it lists TIED to the program's text (the seventh form; the later family's looks); each row that meets fmt, with fmt's text TOLD by the authors' own Lean function (tested against real Go, not proved from fmt's source: count such statements apart). THE CARD IS WHAT COUNTS. Prove the row's statement (the work); the ties are given (YtbnpbflndnjmcaaDoorTie.lean); close each card by the builder's one call (the guide's Derived/Test/ToyasCard.lean, 'card_holds'). Laid BY PROGRAM, IN A SANDBOX (cutbox-door.mjs). By AI agents, Wed Nov 11 2026. No macro, syntax, notation, axiom, sorry.
-/
import Derived.Test.YtbnpbflndnjmcaaDoorRows
import GoSem.ClaimSeven
namespace Go.Proofs.YtbnpbflndnjmcaaDoor
namespace Rows

/-- THE TIED CARD OF 'copselaw03.RatioMakes'. -/
def ratioMakesCard : Claim7 := { stood := { row := ratioMakesRow, standIns := [], harness := (true, "b2f34b57b65e7722a8b510ab72fc676b80ba9d3045d944618e8ca42859503c39"), looks := false }, kinds := [], alts := [], laidByText := true, laidKinds := [.data, .data, .data], laidTests := true, laidLooks := .later }
def RatioMakesCardSaid : Prop := Claim7.holds Tryd.pinned (.plain (OpenSpec.ofChange ratioMakesSpec)) ratioMakesCard

/-- THE TIED CARD OF 'copselaw03.RatioDoes'. -/
def ratioDoesCard : Claim7 := { stood := { row := ratioDoesRow, standIns := [], harness := (true, "b2f34b57b65e7722a8b510ab72fc676b80ba9d3045d944618e8ca42859503c39"), looks := false }, kinds := [], alts := [], laidByText := true, laidKinds := [.data, .data, .data], laidTests := true, laidLooks := .later }
def RatioDoesCardSaid : Prop := Claim7.holds Tryd.pinned (.plain (OpenSpec.ofChange ratioDoesSpec)) ratioDoesCard

/-- THE TIED CARD OF 'copselaw03.RatioWholes'. -/
def ratioWholesCard : Claim7 := { stood := { row := ratioWholesRow, standIns := [], harness := (true, "b2f34b57b65e7722a8b510ab72fc676b80ba9d3045d944618e8ca42859503c39"), looks := false }, kinds := [], alts := [], laidByText := true, laidKinds := [.data, .data, .data], laidTests := true, laidLooks := .later }
def RatioWholesCardSaid : Prop := Claim7.holds Tryd.pinned (.plain (OpenSpec.ofChange ratioWholesSpec)) ratioWholesCard

/-- THE TIED CARD OF 'copselaw03.RatioBack'. -/
def ratioBackCard : Claim7 := { stood := { row := ratioBackRow, standIns := [], harness := (true, "b2f34b57b65e7722a8b510ab72fc676b80ba9d3045d944618e8ca42859503c39"), looks := false }, kinds := [], alts := [], laidByText := true, laidKinds := [.data, .data, .data], laidTests := true, laidLooks := .later }
def RatioBackCardSaid : Prop := Claim7.holds Tryd.pinned (.plain (OpenSpec.ofChange ratioBackSpec)) ratioBackCard

/-- THE TIED CARD OF 'copselaw03.RatioOrders'. -/
def ratioOrdersCard : Claim7 := { stood := { row := ratioOrdersRow, standIns := [], harness := (true, "b2f34b57b65e7722a8b510ab72fc676b80ba9d3045d944618e8ca42859503c39"), looks := false }, kinds := [], alts := [], laidByText := true, laidKinds := [.data, .data, .data], laidTests := true, laidLooks := .later }
def RatioOrdersCardSaid : Prop := Claim7.holds Tryd.pinned (.plain (OpenSpec.ofChange ratioOrdersSpec)) ratioOrdersCard

/-- THE TIED CARD OF 'copselaw03.RatioTexts'. -/
def ratioTextsCard : Claim7 := { stood := { row := ratioTextsRow, standIns := [], harness := (true, "b2f34b57b65e7722a8b510ab72fc676b80ba9d3045d944618e8ca42859503c39"), looks := false }, kinds := [], alts := [], laidByText := true, laidKinds := [.data, .data, .data], laidTests := true, laidLooks := .later }
def RatioTextsCardSaid : Prop := Claim7.holds Tryd.pinned (.plain (OpenSpec.ofChange ratioTextsSpec)) ratioTextsCard

/-- THE SECOND FORM's CARD OF 'copselaw03.RatioMakes'. -/
def ratioMakesUptoCard : Claim7 := { stood := { row := ratioMakesUptoRow, standIns := [], harness := (true, "b2f34b57b65e7722a8b510ab72fc676b80ba9d3045d944618e8ca42859503c39"), looks := false }, kinds := [], alts := [], laidByText := true, laidKinds := [.data, .data, .data], laidTests := true, laidLooks := .later }
def RatioMakesUptoCardSaid : Prop := Claim7.holds Tryd.pinned (.plain (OpenSpec.upto ratioMakesSpec)) ratioMakesUptoCard

/-- THE SECOND FORM's CARD OF 'copselaw03.RatioDoes'. -/
def ratioDoesUptoCard : Claim7 := { stood := { row := ratioDoesUptoRow, standIns := [], harness := (true, "b2f34b57b65e7722a8b510ab72fc676b80ba9d3045d944618e8ca42859503c39"), looks := false }, kinds := [], alts := [], laidByText := true, laidKinds := [.data, .data, .data], laidTests := true, laidLooks := .later }
def RatioDoesUptoCardSaid : Prop := Claim7.holds Tryd.pinned (.plain (OpenSpec.upto ratioDoesSpec)) ratioDoesUptoCard

/-- THE SECOND FORM's CARD OF 'copselaw03.RatioWholes'. -/
def ratioWholesUptoCard : Claim7 := { stood := { row := ratioWholesUptoRow, standIns := [], harness := (true, "b2f34b57b65e7722a8b510ab72fc676b80ba9d3045d944618e8ca42859503c39"), looks := false }, kinds := [], alts := [], laidByText := true, laidKinds := [.data, .data, .data], laidTests := true, laidLooks := .later }
def RatioWholesUptoCardSaid : Prop := Claim7.holds Tryd.pinned (.plain (OpenSpec.upto ratioWholesSpec)) ratioWholesUptoCard

/-- THE SECOND FORM's CARD OF 'copselaw03.RatioBack'. -/
def ratioBackUptoCard : Claim7 := { stood := { row := ratioBackUptoRow, standIns := [], harness := (true, "b2f34b57b65e7722a8b510ab72fc676b80ba9d3045d944618e8ca42859503c39"), looks := false }, kinds := [], alts := [], laidByText := true, laidKinds := [.data, .data, .data], laidTests := true, laidLooks := .later }
def RatioBackUptoCardSaid : Prop := Claim7.holds Tryd.pinned (.plain (OpenSpec.upto ratioBackSpec)) ratioBackUptoCard

/-- THE SECOND FORM's CARD OF 'copselaw03.RatioOrders'. -/
def ratioOrdersUptoCard : Claim7 := { stood := { row := ratioOrdersUptoRow, standIns := [], harness := (true, "b2f34b57b65e7722a8b510ab72fc676b80ba9d3045d944618e8ca42859503c39"), looks := false }, kinds := [], alts := [], laidByText := true, laidKinds := [.data, .data, .data], laidTests := true, laidLooks := .later }
def RatioOrdersUptoCardSaid : Prop := Claim7.holds Tryd.pinned (.plain (OpenSpec.upto ratioOrdersSpec)) ratioOrdersUptoCard

/-- THE SECOND FORM's CARD OF 'copselaw03.RatioTexts'. -/
def ratioTextsUptoCard : Claim7 := { stood := { row := ratioTextsUptoRow, standIns := [], harness := (true, "b2f34b57b65e7722a8b510ab72fc676b80ba9d3045d944618e8ca42859503c39"), looks := false }, kinds := [], alts := [], laidByText := true, laidKinds := [.data, .data, .data], laidTests := true, laidLooks := .later }
def RatioTextsUptoCardSaid : Prop := Claim7.holds Tryd.pinned (.plain (OpenSpec.upto ratioTextsSpec)) ratioTextsUptoCard
end Rows
end Go.Proofs.YtbnpbflndnjmcaaDoor
