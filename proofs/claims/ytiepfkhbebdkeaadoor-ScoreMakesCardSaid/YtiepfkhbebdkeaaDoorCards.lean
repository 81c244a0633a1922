/-
  DERIVED. GIVEN WITH THE SEED: THE CARDS: each row of YtiepfkhbebdkeaaDoorRows.lean that lists a variable, with what it lists TIED to the program's text (the seventh form; the later family's looks); each row that meets fmt, with fmt's text TOLD by the authors' own Lean function (tested against real Go, not proved from fmt's source: count such statements apart). THE CARD IS WHAT COUNTS. Prove the row's statement (the work); the ties are given (YtiepfkhbebdkeaaDoorTie.lean); close each card by the builder's one call (the guide's Derived/Test/ToyasCard.lean, 'card_holds'). Laid BY PROGRAM, IN A SANDBOX (cutbox-door.mjs). By AI agents, Wed Nov 11 2026. No macro, syntax, notation, axiom, sorry.
-/
import Derived.Test.YtiepfkhbebdkeaaDoorRows
import GoSem.ClaimSeven
namespace Go.Proofs.YtiepfkhbebdkeaaDoor
namespace Rows

/-- THE TIED CARD OF 'copselaw13.ScoreMakes'. -/
def scoreMakesCard : Claim7 := { stood := { row := scoreMakesRow, standIns := [], harness := (true, "dfba5a66bb0da1de65d31e231120c177ea04cdb89d2c68edc0c226accb1ce540"), looks := true }, kinds := [], alts := [], laidByText := true, laidKinds := [.data, .data, .data, .sentinel, .sentinel], laidTests := true, laidLooks := .later }
def ScoreMakesCardSaid : Prop := Claim7.holds Tryd.pinned (.plain (OpenSpec.ofChange scoreMakesSpec)) scoreMakesCard

/-- THE TIED CARD OF 'copselaw13.ScoreOrders'. -/
def scoreOrdersCard : Claim7 := { stood := { row := scoreOrdersRow, standIns := [], harness := (true, "dfba5a66bb0da1de65d31e231120c177ea04cdb89d2c68edc0c226accb1ce540"), looks := true }, kinds := [], alts := [], laidByText := true, laidKinds := [.data, .data, .data, .sentinel, .sentinel], laidTests := true, laidLooks := .later }
def ScoreOrdersCardSaid : Prop := Claim7.holds Tryd.pinned (.plain (OpenSpec.ofChange scoreOrdersSpec)) scoreOrdersCard

/-- THE TIED CARD OF 'copselaw13.ScoreLevels'. -/
def scoreLevelsCard : Claim7 := { stood := { row := scoreLevelsRow, standIns := [], harness := (true, "dfba5a66bb0da1de65d31e231120c177ea04cdb89d2c68edc0c226accb1ce540"), looks := true }, kinds := [], alts := [], laidByText := true, laidKinds := [.data, .data, .data, .sentinel, .sentinel], laidTests := true, laidLooks := .later }
def ScoreLevelsCardSaid : Prop := Claim7.holds Tryd.pinned (.plain (OpenSpec.ofChange scoreLevelsSpec)) scoreLevelsCard

/-- THE TIED CARD OF 'copselaw13.ScoreSorts'. -/
def scoreSortsCard : Claim7 := { stood := { row := scoreSortsRow, standIns := [], harness := (true, "dfba5a66bb0da1de65d31e231120c177ea04cdb89d2c68edc0c226accb1ce540"), looks := true }, kinds := [], alts := [], laidByText := true, laidKinds := [.data, .data, .data, .sentinel, .sentinel], laidTests := true, laidLooks := .later }
def ScoreSortsCardSaid : Prop := Claim7.holds Tryd.pinned (.plain (OpenSpec.ofChange scoreSortsSpec)) scoreSortsCard

/-- THE TIED CARD OF 'copselaw13.ScoreTexts'. -/
def scoreTextsCard : Claim7 := { stood := { row := scoreTextsRow, standIns := [], harness := (true, "dfba5a66bb0da1de65d31e231120c177ea04cdb89d2c68edc0c226accb1ce540"), looks := true }, kinds := [], alts := [], laidByText := true, laidKinds := [.data, .data, .data, .sentinel, .sentinel], laidTests := true, laidLooks := .later }
def ScoreTextsCardSaid : Prop := Claim7.holds Tryd.pinned (.plain (OpenSpec.ofChange scoreTextsSpec)) scoreTextsCard

/-- THE SECOND FORM's CARD OF 'copselaw13.ScoreMakes'. -/
def scoreMakesUptoCard : Claim7 := { stood := { row := scoreMakesUptoRow, standIns := [], harness := (true, "dfba5a66bb0da1de65d31e231120c177ea04cdb89d2c68edc0c226accb1ce540"), looks := true }, kinds := [], alts := [], laidByText := true, laidKinds := [.data, .data, .data, .sentinel, .sentinel], laidTests := true, laidLooks := .later }
def ScoreMakesUptoCardSaid : Prop := Claim7.holds Tryd.pinned (.plain (OpenSpec.upto scoreMakesSpec)) scoreMakesUptoCard

/-- THE SECOND FORM's CARD OF 'copselaw13.ScoreOrders'. -/
def scoreOrdersUptoCard : Claim7 := { stood := { row := scoreOrdersUptoRow, standIns := [], harness := (true, "dfba5a66bb0da1de65d31e231120c177ea04cdb89d2c68edc0c226accb1ce540"), looks := true }, kinds := [], alts := [], laidByText := true, laidKinds := [.data, .data, .data, .sentinel, .sentinel], laidTests := true, laidLooks := .later }
def ScoreOrdersUptoCardSaid : Prop := Claim7.holds Tryd.pinned (.plain (OpenSpec.upto scoreOrdersSpec)) scoreOrdersUptoCard

/-- THE SECOND FORM's CARD OF 'copselaw13.ScoreLevels'. -/
def scoreLevelsUptoCard : Claim7 := { stood := { row := scoreLevelsUptoRow, standIns := [], harness := (true, "dfba5a66bb0da1de65d31e231120c177ea04cdb89d2c68edc0c226accb1ce540"), looks := true }, kinds := [], alts := [], laidByText := true, laidKinds := [.data, .data, .data, .sentinel, .sentinel], laidTests := true, laidLooks := .later }
def ScoreLevelsUptoCardSaid : Prop := Claim7.holds Tryd.pinned (.plain (OpenSpec.upto scoreLevelsSpec)) scoreLevelsUptoCard

/-- THE SECOND FORM's CARD OF 'copselaw13.ScoreSorts'. -/
def scoreSortsUptoCard : Claim7 := { stood := { row := scoreSortsUptoRow, standIns := [], harness := (true, "dfba5a66bb0da1de65d31e231120c177ea04cdb89d2c68edc0c226accb1ce540"), looks := true }, kinds := [], alts := [], laidByText := true, laidKinds := [.data, .data, .data, .sentinel, .sentinel], laidTests := true, laidLooks := .later }
def ScoreSortsUptoCardSaid : Prop := Claim7.holds Tryd.pinned (.plain (OpenSpec.upto scoreSortsSpec)) scoreSortsUptoCard

/-- THE SECOND FORM's CARD OF 'copselaw13.ScoreTexts'. -/
def scoreTextsUptoCard : Claim7 := { stood := { row := scoreTextsUptoRow, standIns := [], harness := (true, "dfba5a66bb0da1de65d31e231120c177ea04cdb89d2c68edc0c226accb1ce540"), looks := true }, kinds := [], alts := [], laidByText := true, laidKinds := [.data, .data, .data, .sentinel, .sentinel], laidTests := true, laidLooks := .later }
def ScoreTextsUptoCardSaid : Prop := Claim7.holds Tryd.pinned (.plain (OpenSpec.upto scoreTextsSpec)) scoreTextsUptoCard
end Rows
end Go.Proofs.YtiepfkhbebdkeaaDoor
