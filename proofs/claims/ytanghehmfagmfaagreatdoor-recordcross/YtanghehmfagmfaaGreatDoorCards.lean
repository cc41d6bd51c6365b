/-
  DERIVED. GIVEN WITH THE SEED: THE CARDS: each row of YtanghehmfagmfaaGreatDoorRows.lean that lists a variable, with what it lists TIED to the program's text (the seventh form; the later family's looks); each row that meets fmt, with fmt's text TOLD by the authors' own Lean function (tested against real Go, not proved from fmt's source: count such statements apart). THE CARD IS WHAT COUNTS. Prove the row's statement (the work); the ties are given (YtanghehmfagmfaaGreatDoorTie.lean); close each card by the builder's one call (the guide's Derived/Test/ToyasCard.lean, 'card_holds'). Laid BY PROGRAM, IN A SANDBOX (cutbox-door.mjs). By AI agents, Wed Nov 11 2026. No macro, syntax, notation, axiom, sorry.
-/
import Derived.Test.YtanghehmfagmfaaGreatDoorRows
import GoSem.ClaimSeven
namespace Go.Proofs.YtanghehmfagmfaaGreatDoor
namespace Rows

/-- THE TIED CARD OF 'escutcheonlaw13.RecordPlays'. -/
def recordPlaysCard : Claim7 := { stood := { row := recordPlaysRow, standIns := [], harness := (true, "79782046b7306ded87201b61f53a35a8c3fde12e9d04da9278090dc537bc280d"), looks := false }, kinds := [], alts := [], laidByText := true, laidKinds := [.data, .pinned], laidTests := true, laidLooks := .later }
def RecordPlaysCardSaid : Prop := Claim7.holds Tryz.pinned (.plain (OpenSpec.ofChange recordPlaysSpec)) recordPlaysCard

/-- THE TIED CARD OF 'escutcheonlaw13.RecordEnds'. -/
def recordEndsCard : Claim7 := { stood := { row := recordEndsRow, standIns := [], harness := (true, "79782046b7306ded87201b61f53a35a8c3fde12e9d04da9278090dc537bc280d"), looks := false }, kinds := [], alts := [], laidByText := true, laidKinds := [.data, .pinned], laidTests := true, laidLooks := .later }
def RecordEndsCardSaid : Prop := Claim7.holds Tryz.pinned (.plain (OpenSpec.ofChange recordEndsSpec)) recordEndsCard

/-- THE TIED CARD OF 'escutcheonlaw13.RecordOrder'. -/
def recordOrderCard : Claim7 := { stood := { row := recordOrderRow, standIns := [], harness := (true, "79782046b7306ded87201b61f53a35a8c3fde12e9d04da9278090dc537bc280d"), looks := false }, kinds := [], alts := [], laidByText := true, laidKinds := [.data, .pinned], laidTests := true, laidLooks := .later }
def RecordOrderCardSaid : Prop := Claim7.holds Tryz.pinned (.plain (OpenSpec.ofChange recordOrderSpec)) recordOrderCard

/-- THE TIED CARD OF 'escutcheonlaw13.RecordShapes'. -/
def recordShapesCard : Claim7 := { stood := { row := recordShapesRow, standIns := [], harness := (true, "79782046b7306ded87201b61f53a35a8c3fde12e9d04da9278090dc537bc280d"), looks := false }, kinds := [], alts := [], laidByText := true, laidKinds := [.data, .pinned], laidTests := true, laidLooks := .later }
def RecordShapesCardSaid : Prop := Claim7.holds Tryz.pinned (.plain (OpenSpec.ofChange recordShapesSpec)) recordShapesCard

/-- THE TIED CARD OF 'escutcheonlaw13.RecordEpochs'. -/
def recordEpochsCard : Claim7 := { stood := { row := recordEpochsRow, standIns := [], harness := (true, "79782046b7306ded87201b61f53a35a8c3fde12e9d04da9278090dc537bc280d"), looks := false }, kinds := [], alts := [], laidByText := true, laidKinds := [.data, .pinned], laidTests := true, laidLooks := .later }
def RecordEpochsCardSaid : Prop := Claim7.holds Tryz.pinned (.plain (OpenSpec.ofChange recordEpochsSpec)) recordEpochsCard

/-- THE TIED CARD OF 'escutcheonlaw13.RecordFar'. -/
def recordFarCard : Claim7 := { stood := { row := recordFarRow, standIns := [], harness := (true, "79782046b7306ded87201b61f53a35a8c3fde12e9d04da9278090dc537bc280d"), looks := false }, kinds := [], alts := [], laidByText := true, laidKinds := [.data, .pinned], laidTests := true, laidLooks := .later }
def RecordFarCardSaid : Prop := Claim7.holds Tryz.pinned (.plain (OpenSpec.ofChange recordFarSpec)) recordFarCard

/-- THE TIED CARD OF 'escutcheonlaw13.RecordHeads'. -/
def recordHeadsCard : Claim7 := { stood := { row := recordHeadsRow, standIns := [], harness := (true, "79782046b7306ded87201b61f53a35a8c3fde12e9d04da9278090dc537bc280d"), looks := false }, kinds := [], alts := [], laidByText := true, laidKinds := [.data, .pinned], laidTests := true, laidLooks := .later }
def RecordHeadsCardSaid : Prop := Claim7.holds Tryz.pinned (.plain (OpenSpec.ofChange recordHeadsSpec)) recordHeadsCard

/-- THE TIED CARD OF 'escutcheonlaw13.RecordCross'. -/
def recordCrossCard : Claim7 := { stood := { row := recordCrossRow, standIns := [], harness := (true, "79782046b7306ded87201b61f53a35a8c3fde12e9d04da9278090dc537bc280d"), looks := false }, kinds := [], alts := [], laidByText := true, laidKinds := [.data, .pinned], laidTests := true, laidLooks := .later }
def RecordCrossCardSaid : Prop := Claim7.holds Tryz.pinned (.plain (OpenSpec.ofChange recordCrossSpec)) recordCrossCard

/-- THE TIED CARD OF 'escutcheonlaw13.RecordRefuses'. -/
def recordRefusesCard : Claim7 := { stood := { row := recordRefusesRow, standIns := [], harness := (true, "79782046b7306ded87201b61f53a35a8c3fde12e9d04da9278090dc537bc280d"), looks := false }, kinds := [], alts := [], laidByText := true, laidKinds := [.data, .pinned], laidTests := true, laidLooks := .later }
def RecordRefusesCardSaid : Prop := Claim7.holds Tryz.pinned (.plain (OpenSpec.ofChange recordRefusesSpec)) recordRefusesCard

/-- THE TIED CARD OF 'escutcheonlaw13.RecordTwo'. -/
def recordTwoCard : Claim7 := { stood := { row := recordTwoRow, standIns := [], harness := (true, "79782046b7306ded87201b61f53a35a8c3fde12e9d04da9278090dc537bc280d"), looks := false }, kinds := [], alts := [], laidByText := true, laidKinds := [.data, .pinned], laidTests := true, laidLooks := .later }
def RecordTwoCardSaid : Prop := Claim7.holds Tryz.pinned (.plain (OpenSpec.ofChange recordTwoSpec)) recordTwoCard

/-- THE SECOND FORM's CARD OF 'escutcheonlaw13.RecordPlays'. -/
def recordPlaysUptoCard : Claim7 := { stood := { row := recordPlaysUptoRow, standIns := [], harness := (true, "79782046b7306ded87201b61f53a35a8c3fde12e9d04da9278090dc537bc280d"), looks := false }, kinds := [], alts := [], laidByText := true, laidKinds := [.data, .pinned], laidTests := true, laidLooks := .later }
def RecordPlaysUptoCardSaid : Prop := Claim7.holds Tryz.pinned (.plain (OpenSpec.upto recordPlaysSpec)) recordPlaysUptoCard

/-- THE SECOND FORM's CARD OF 'escutcheonlaw13.RecordEnds'. -/
def recordEndsUptoCard : Claim7 := { stood := { row := recordEndsUptoRow, standIns := [], harness := (true, "79782046b7306ded87201b61f53a35a8c3fde12e9d04da9278090dc537bc280d"), looks := false }, kinds := [], alts := [], laidByText := true, laidKinds := [.data, .pinned], laidTests := true, laidLooks := .later }
def RecordEndsUptoCardSaid : Prop := Claim7.holds Tryz.pinned (.plain (OpenSpec.upto recordEndsSpec)) recordEndsUptoCard

/-- THE SECOND FORM's CARD OF 'escutcheonlaw13.RecordOrder'. -/
def recordOrderUptoCard : Claim7 := { stood := { row := recordOrderUptoRow, standIns := [], harness := (true, "79782046b7306ded87201b61f53a35a8c3fde12e9d04da9278090dc537bc280d"), looks := false }, kinds := [], alts := [], laidByText := true, laidKinds := [.data, .pinned], laidTests := true, laidLooks := .later }
def RecordOrderUptoCardSaid : Prop := Claim7.holds Tryz.pinned (.plain (OpenSpec.upto recordOrderSpec)) recordOrderUptoCard

/-- THE SECOND FORM's CARD OF 'escutcheonlaw13.RecordShapes'. -/
def recordShapesUptoCard : Claim7 := { stood := { row := recordShapesUptoRow, standIns := [], harness := (true, "79782046b7306ded87201b61f53a35a8c3fde12e9d04da9278090dc537bc280d"), looks := false }, kinds := [], alts := [], laidByText := true, laidKinds := [.data, .pinned], laidTests := true, laidLooks := .later }
def RecordShapesUptoCardSaid : Prop := Claim7.holds Tryz.pinned (.plain (OpenSpec.upto recordShapesSpec)) recordShapesUptoCard

/-- THE SECOND FORM's CARD OF 'escutcheonlaw13.RecordEpochs'. -/
def recordEpochsUptoCard : Claim7 := { stood := { row := recordEpochsUptoRow, standIns := [], harness := (true, "79782046b7306ded87201b61f53a35a8c3fde12e9d04da9278090dc537bc280d"), looks := false }, kinds := [], alts := [], laidByText := true, laidKinds := [.data, .pinned], laidTests := true, laidLooks := .later }
def RecordEpochsUptoCardSaid : Prop := Claim7.holds Tryz.pinned (.plain (OpenSpec.upto recordEpochsSpec)) recordEpochsUptoCard

/-- THE SECOND FORM's CARD OF 'escutcheonlaw13.RecordFar'. -/
def recordFarUptoCard : Claim7 := { stood := { row := recordFarUptoRow, standIns := [], harness := (true, "79782046b7306ded87201b61f53a35a8c3fde12e9d04da9278090dc537bc280d"), looks := false }, kinds := [], alts := [], laidByText := true, laidKinds := [.data, .pinned], laidTests := true, laidLooks := .later }
def RecordFarUptoCardSaid : Prop := Claim7.holds Tryz.pinned (.plain (OpenSpec.upto recordFarSpec)) recordFarUptoCard

/-- THE SECOND FORM's CARD OF 'escutcheonlaw13.RecordHeads'. -/
def recordHeadsUptoCard : Claim7 := { stood := { row := recordHeadsUptoRow, standIns := [], harness := (true, "79782046b7306ded87201b61f53a35a8c3fde12e9d04da9278090dc537bc280d"), looks := false }, kinds := [], alts := [], laidByText := true, laidKinds := [.data, .pinned], laidTests := true, laidLooks := .later }
def RecordHeadsUptoCardSaid : Prop := Claim7.holds Tryz.pinned (.plain (OpenSpec.upto recordHeadsSpec)) recordHeadsUptoCard

/-- THE SECOND FORM's CARD OF 'escutcheonlaw13.RecordCross'. -/
def recordCrossUptoCard : Claim7 := { stood := { row := recordCrossUptoRow, standIns := [], harness := (true, "79782046b7306ded87201b61f53a35a8c3fde12e9d04da9278090dc537bc280d"), looks := false }, kinds := [], alts := [], laidByText := true, laidKinds := [.data, .pinned], laidTests := true, laidLooks := .later }
def RecordCrossUptoCardSaid : Prop := Claim7.holds Tryz.pinned (.plain (OpenSpec.upto recordCrossSpec)) recordCrossUptoCard

/-- THE SECOND FORM's CARD OF 'escutcheonlaw13.RecordRefuses'. -/
def recordRefusesUptoCard : Claim7 := { stood := { row := recordRefusesUptoRow, standIns := [], harness := (true, "79782046b7306ded87201b61f53a35a8c3fde12e9d04da9278090dc537bc280d"), looks := false }, kinds := [], alts := [], laidByText := true, laidKinds := [.data, .pinned], laidTests := true, laidLooks := .later }
def RecordRefusesUptoCardSaid : Prop := Claim7.holds Tryz.pinned (.plain (OpenSpec.upto recordRefusesSpec)) recordRefusesUptoCard

/-- THE SECOND FORM's CARD OF 'escutcheonlaw13.RecordTwo'. -/
def recordTwoUptoCard : Claim7 := { stood := { row := recordTwoUptoRow, standIns := [], harness := (true, "79782046b7306ded87201b61f53a35a8c3fde12e9d04da9278090dc537bc280d"), looks := false }, kinds := [], alts := [], laidByText := true, laidKinds := [.data, .pinned], laidTests := true, laidLooks := .later }
def RecordTwoUptoCardSaid : Prop := Claim7.holds Tryz.pinned (.plain (OpenSpec.upto recordTwoSpec)) recordTwoUptoCard
end Rows
end Go.Proofs.YtanghehmfagmfaaGreatDoor
