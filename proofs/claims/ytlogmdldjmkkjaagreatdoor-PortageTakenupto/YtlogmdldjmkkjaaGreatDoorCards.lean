/-
  DERIVED. GIVEN WITH THE SEED: THE CARDS: each row of YtlogmdldjmkkjaaGreatDoorRows.lean that lists a variable, with what it lists TIED to the program's text (the seventh form; the later family's looks); each row that meets fmt, with fmt's text TOLD by the authors' own Lean function (tested against real Go, not proved from fmt's source: count such statements apart). THE CARD IS WHAT COUNTS. Prove the row's statement (the work); the ties are given (YtlogmdldjmkkjaaGreatDoorTie.lean); close each card by the builder's one call (the guide's Derived/Test/ToyasCard.lean, 'card_holds'). Laid BY PROGRAM, IN A SANDBOX (cutbox-door.mjs). By AI agents, Wed Nov 11 2026. No macro, syntax, notation, axiom, sorry.
-/
import Derived.Test.YtlogmdldjmkkjaaGreatDoorRows
import GoSem.ClaimSeven
namespace Go.Proofs.YtlogmdldjmkkjaaGreatDoor
namespace Rows

/-- THE TIED CARD OF 'portagelaw08.ProgramBytes'. -/
def programBytesCard : Claim7 := { stood := { row := programBytesRow, standIns := [], harness := (true, "659d45b664a64955498b286ae72d84eeb86059817702acd35c84177fa44b6bc9"), looks := true }, kinds := [], alts := [], laidByText := true, laidKinds := [.data, .handle], laidTests := true, laidLooks := .later }
def ProgramBytesCardSaid : Prop := Claim7.holds Tryz.pinned (.plain (OpenSpec.ofChange programBytesSpec)) programBytesCard

/-- THE TIED CARD OF 'portagelaw08.ProgramBack'. -/
def programBackCard : Claim7 := { stood := { row := programBackRow, standIns := [], harness := (true, "659d45b664a64955498b286ae72d84eeb86059817702acd35c84177fa44b6bc9"), looks := true }, kinds := [], alts := [], laidByText := true, laidKinds := [.data, .handle], laidTests := true, laidLooks := .later }
def ProgramBackCardSaid : Prop := Claim7.holds Tryz.pinned (.plain (OpenSpec.ofChange programBackSpec)) programBackCard

/-- THE TIED CARD OF 'portagetop.PortageTaken'. -/
def portageTakenCard : Claim7 := { stood := { row := portageTakenRow, standIns := [], harness := (true, "659d45b664a64955498b286ae72d84eeb86059817702acd35c84177fa44b6bc9"), looks := true }, kinds := [], alts := [], laidByText := true, laidKinds := [.handle], laidTests := true, laidLooks := .later }
def PortageTakenCardSaid : Prop := Claim7.holds Tryz.pinned (.plain (OpenSpec.ofChange portageTakenSpec)) portageTakenCard

/-- THE SECOND FORM's CARD OF 'portagelaw08.ProgramBytes'. -/
def programBytesUptoCard : Claim7 := { stood := { row := programBytesUptoRow, standIns := [], harness := (true, "659d45b664a64955498b286ae72d84eeb86059817702acd35c84177fa44b6bc9"), looks := true }, kinds := [], alts := [], laidByText := true, laidKinds := [.data, .handle], laidTests := true, laidLooks := .later }
def ProgramBytesUptoCardSaid : Prop := Claim7.holds Tryz.pinned (.plain (OpenSpec.upto programBytesSpec)) programBytesUptoCard

/-- THE SECOND FORM's CARD OF 'portagelaw08.ProgramBack'. -/
def programBackUptoCard : Claim7 := { stood := { row := programBackUptoRow, standIns := [], harness := (true, "659d45b664a64955498b286ae72d84eeb86059817702acd35c84177fa44b6bc9"), looks := true }, kinds := [], alts := [], laidByText := true, laidKinds := [.data, .handle], laidTests := true, laidLooks := .later }
def ProgramBackUptoCardSaid : Prop := Claim7.holds Tryz.pinned (.plain (OpenSpec.upto programBackSpec)) programBackUptoCard

/-- THE SECOND FORM's CARD OF 'portagetop.PortageTaken'. -/
def portageTakenUptoCard : Claim7 := { stood := { row := portageTakenUptoRow, standIns := [], harness := (true, "659d45b664a64955498b286ae72d84eeb86059817702acd35c84177fa44b6bc9"), looks := true }, kinds := [], alts := [], laidByText := true, laidKinds := [.handle], laidTests := true, laidLooks := .later }
def PortageTakenUptoCardSaid : Prop := Claim7.holds Tryz.pinned (.plain (OpenSpec.upto portageTakenSpec)) portageTakenUptoCard
end Rows
end Go.Proofs.YtlogmdldjmkkjaaGreatDoor
