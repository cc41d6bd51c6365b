/-
  DERIVED. GIVEN WITH THE SEED: THE CARDS: each row of YtcgodbdakbekjaaDoorRows.lean that lists a variable, with what it lists TIED to the program's text (the seventh form; the later family's looks); each row that meets fmt, with fmt's text TOLD by the authors' own Lean function (tested against real Go, not proved from fmt's source: count such statements apart). THE CARD IS WHAT COUNTS. Prove the row's statement (the work); the ties are given (YtcgodbdakbekjaaDoorTie.lean); close each card by the builder's one call (the guide's Derived/Test/ToyasCard.lean, 'card_holds'). Laid BY PROGRAM, IN A SANDBOX (cutbox-door.mjs). By AI agents, Wed Nov 11 2026. No macro, syntax, notation, axiom, sorry.
-/
import Derived.Test.YtcgodbdakbekjaaDoorRows
import GoSem.ClaimSeven
namespace Go.Proofs.YtcgodbdakbekjaaDoor
namespace Rows

/-- THE TIED CARD OF 'escutcheonlaw8.PadLengths'. -/
def padLengthsCard : Claim7 := { stood := { row := padLengthsRow, standIns := [], harness := (true, "b1a3e1bdcd52025016a5da7a6d684a98b937fff20b1676e6ff7adf8c2eb3bc9f"), looks := false }, kinds := [], alts := [], laidByText := true, laidKinds := [.data, .pinned], laidTests := true, laidLooks := .later }
def PadLengthsCardSaid : Prop := Claim7.holds Tryd.pinned (.plain (OpenSpec.ofChange padLengthsSpec)) padLengthsCard

/-- THE TIED CARD OF 'escutcheonlaw8.PadSizes'. -/
def padSizesCard : Claim7 := { stood := { row := padSizesRow, standIns := [], harness := (true, "b1a3e1bdcd52025016a5da7a6d684a98b937fff20b1676e6ff7adf8c2eb3bc9f"), looks := false }, kinds := [], alts := [], laidByText := true, laidKinds := [.data, .pinned], laidTests := true, laidLooks := .later }
def PadSizesCardSaid : Prop := Claim7.holds Tryd.pinned (.plain (OpenSpec.ofChange padSizesSpec)) padSizesCard

/-- THE TIED CARD OF 'escutcheonlaw8.PadOnly'. -/
def padOnlyCard : Claim7 := { stood := { row := padOnlyRow, standIns := [], harness := (true, "b1a3e1bdcd52025016a5da7a6d684a98b937fff20b1676e6ff7adf8c2eb3bc9f"), looks := false }, kinds := [], alts := [], laidByText := true, laidKinds := [.data, .pinned], laidTests := true, laidLooks := .later }
def PadOnlyCardSaid : Prop := Claim7.holds Tryd.pinned (.plain (OpenSpec.ofChange padOnlySpec)) padOnlyCard

/-- THE TIED CARD OF 'escutcheonlaw8.PadZeros'. -/
def padZerosCard : Claim7 := { stood := { row := padZerosRow, standIns := [], harness := (true, "b1a3e1bdcd52025016a5da7a6d684a98b937fff20b1676e6ff7adf8c2eb3bc9f"), looks := false }, kinds := [], alts := [], laidByText := true, laidKinds := [.data, .pinned], laidTests := true, laidLooks := .later }
def PadZerosCardSaid : Prop := Claim7.holds Tryd.pinned (.plain (OpenSpec.ofChange padZerosSpec)) padZerosCard

/-- THE SECOND FORM's CARD OF 'escutcheonlaw8.PadLengths'. -/
def padLengthsUptoCard : Claim7 := { stood := { row := padLengthsUptoRow, standIns := [], harness := (true, "b1a3e1bdcd52025016a5da7a6d684a98b937fff20b1676e6ff7adf8c2eb3bc9f"), looks := false }, kinds := [], alts := [], laidByText := true, laidKinds := [.data, .pinned], laidTests := true, laidLooks := .later }
def PadLengthsUptoCardSaid : Prop := Claim7.holds Tryd.pinned (.plain (OpenSpec.upto padLengthsSpec)) padLengthsUptoCard

/-- THE SECOND FORM's CARD OF 'escutcheonlaw8.PadSizes'. -/
def padSizesUptoCard : Claim7 := { stood := { row := padSizesUptoRow, standIns := [], harness := (true, "b1a3e1bdcd52025016a5da7a6d684a98b937fff20b1676e6ff7adf8c2eb3bc9f"), looks := false }, kinds := [], alts := [], laidByText := true, laidKinds := [.data, .pinned], laidTests := true, laidLooks := .later }
def PadSizesUptoCardSaid : Prop := Claim7.holds Tryd.pinned (.plain (OpenSpec.upto padSizesSpec)) padSizesUptoCard

/-- THE SECOND FORM's CARD OF 'escutcheonlaw8.PadOnly'. -/
def padOnlyUptoCard : Claim7 := { stood := { row := padOnlyUptoRow, standIns := [], harness := (true, "b1a3e1bdcd52025016a5da7a6d684a98b937fff20b1676e6ff7adf8c2eb3bc9f"), looks := false }, kinds := [], alts := [], laidByText := true, laidKinds := [.data, .pinned], laidTests := true, laidLooks := .later }
def PadOnlyUptoCardSaid : Prop := Claim7.holds Tryd.pinned (.plain (OpenSpec.upto padOnlySpec)) padOnlyUptoCard

/-- THE SECOND FORM's CARD OF 'escutcheonlaw8.PadZeros'. -/
def padZerosUptoCard : Claim7 := { stood := { row := padZerosUptoRow, standIns := [], harness := (true, "b1a3e1bdcd52025016a5da7a6d684a98b937fff20b1676e6ff7adf8c2eb3bc9f"), looks := false }, kinds := [], alts := [], laidByText := true, laidKinds := [.data, .pinned], laidTests := true, laidLooks := .later }
def PadZerosUptoCardSaid : Prop := Claim7.holds Tryd.pinned (.plain (OpenSpec.upto padZerosSpec)) padZerosUptoCard
end Rows
end Go.Proofs.YtcgodbdakbekjaaDoor
