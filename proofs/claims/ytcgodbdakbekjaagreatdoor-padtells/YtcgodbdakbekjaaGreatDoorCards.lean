/-
  DERIVED. GIVEN WITH THE SEED: THE CARDS: each row of YtcgodbdakbekjaaGreatDoorRows.lean that lists a variable, with what it lists TIED to the program's text (the seventh form; the later family's looks); each row that meets fmt, with fmt's text TOLD by the authors' own Lean function (tested against real Go, not proved from fmt's source: count such statements apart). THE CARD IS WHAT COUNTS. Prove the row's statement (the work); the ties are given (YtcgodbdakbekjaaGreatDoorTie.lean); close each card by the builder's one call (the guide's Derived/Test/ToyasCard.lean, 'card_holds'). Laid BY PROGRAM, IN A SANDBOX (cutbox-door.mjs). By AI agents, Wed Nov 11 2026. No macro, syntax, notation, axiom, sorry.
-/
import Derived.Test.YtcgodbdakbekjaaGreatDoorRows
import GoSem.ClaimSeven
namespace Go.Proofs.YtcgodbdakbekjaaGreatDoor
namespace Rows

/-- THE TIED CARD OF 'escutcheonlaw8.PadTells'. -/
def padTellsCard : Claim7 := { stood := { row := padTellsRow, standIns := [], harness := (true, "1b74fdc4a4e2f2411d3441a414389da1b362d641b1dfcca8ec780fd653a4ae65"), looks := false }, kinds := [], alts := [], laidByText := true, laidKinds := [.data, .pinned], laidTests := true, laidLooks := .later }
def PadTellsCardSaid : Prop := Claim7.holds Tryz.pinned (.plain (OpenSpec.ofChange padTellsSpec)) padTellsCard

/-- THE SECOND FORM's CARD OF 'escutcheonlaw8.PadTells'. -/
def padTellsUptoCard : Claim7 := { stood := { row := padTellsUptoRow, standIns := [], harness := (true, "1b74fdc4a4e2f2411d3441a414389da1b362d641b1dfcca8ec780fd653a4ae65"), looks := false }, kinds := [], alts := [], laidByText := true, laidKinds := [.data, .pinned], laidTests := true, laidLooks := .later }
def PadTellsUptoCardSaid : Prop := Claim7.holds Tryz.pinned (.plain (OpenSpec.upto padTellsSpec)) padTellsUptoCard
end Rows
end Go.Proofs.YtcgodbdakbekjaaGreatDoor
