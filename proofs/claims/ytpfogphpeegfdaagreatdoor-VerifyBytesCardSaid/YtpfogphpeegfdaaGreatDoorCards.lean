/-
  DERIVED. GIVEN WITH THE SEED: THE CARDS: each row of YtpfogphpeegfdaaGreatDoorRows.lean that lists a variable, with what it lists TIED to the program's text (the seventh form; the later family's looks); each row that meets fmt, with fmt's text TOLD by the authors' own Lean function (tested against real Go, not proved from fmt's source: count such statements apart). THE CARD IS WHAT COUNTS. Prove the row's statement (the work); the ties are given (YtpfogphpeegfdaaGreatDoorTie.lean); close each card by the builder's one call (the guide's Derived/Test/ToyasCard.lean, 'card_holds'). Laid BY PROGRAM, IN A SANDBOX (cutbox-door.mjs). By AI agents, Wed Nov 11 2026. No macro, syntax, notation, axiom, sorry.
-/
import Derived.Test.YtpfogphpeegfdaaGreatDoorRows
import GoSem.ClaimSeven
namespace Go.Proofs.YtpfogphpeegfdaaGreatDoor
namespace Rows

/-- THE TIED CARD OF 'portagelaw08.ProgramCuts'. -/
def programCutsCard : Claim7 := { stood := { row := programCutsRow, standIns := [], harness := (true, "40585829caabc219b8385c6d8a5a76a3415f785846f8766bdcee91393af0724a"), looks := true }, kinds := [], alts := [], laidByText := true, laidKinds := [.handle], laidTests := true, laidLooks := .later }
def ProgramCutsCardSaid : Prop := Claim7.holds Tryz.pinned (.plain (OpenSpec.ofChange programCutsSpec)) programCutsCard

/-- THE TIED CARD OF 'portagelaw10.VerifyBytes'. -/
def verifyBytesCard : Claim7 := { stood := { row := verifyBytesRow, standIns := [], harness := (true, "40585829caabc219b8385c6d8a5a76a3415f785846f8766bdcee91393af0724a"), looks := true }, kinds := [], alts := [], laidByText := true, laidKinds := [.handle], laidTests := true, laidLooks := .later }
def VerifyBytesCardSaid : Prop := Claim7.holds Tryz.pinned (.plain (OpenSpec.ofChange verifyBytesSpec)) verifyBytesCard

/-- THE TIED CARD OF 'portagetop.PortageAnyProgram'. -/
def portageAnyProgramCard : Claim7 := { stood := { row := portageAnyProgramRow, standIns := [], harness := (true, "40585829caabc219b8385c6d8a5a76a3415f785846f8766bdcee91393af0724a"), looks := true }, kinds := [], alts := [], laidByText := true, laidKinds := [.handle], laidTests := true, laidLooks := .later }
def PortageAnyProgramCardSaid : Prop := Claim7.holds Tryz.pinned (.plain (OpenSpec.ofChange portageAnyProgramSpec)) portageAnyProgramCard

/-- THE SECOND FORM's CARD OF 'portagelaw08.ProgramCuts'. -/
def programCutsUptoCard : Claim7 := { stood := { row := programCutsUptoRow, standIns := [], harness := (true, "40585829caabc219b8385c6d8a5a76a3415f785846f8766bdcee91393af0724a"), looks := true }, kinds := [], alts := [], laidByText := true, laidKinds := [.handle], laidTests := true, laidLooks := .later }
def ProgramCutsUptoCardSaid : Prop := Claim7.holds Tryz.pinned (.plain (OpenSpec.upto programCutsSpec)) programCutsUptoCard

/-- THE SECOND FORM's CARD OF 'portagelaw10.VerifyBytes'. -/
def verifyBytesUptoCard : Claim7 := { stood := { row := verifyBytesUptoRow, standIns := [], harness := (true, "40585829caabc219b8385c6d8a5a76a3415f785846f8766bdcee91393af0724a"), looks := true }, kinds := [], alts := [], laidByText := true, laidKinds := [.handle], laidTests := true, laidLooks := .later }
def VerifyBytesUptoCardSaid : Prop := Claim7.holds Tryz.pinned (.plain (OpenSpec.upto verifyBytesSpec)) verifyBytesUptoCard

/-- THE SECOND FORM's CARD OF 'portagetop.PortageAnyProgram'. -/
def portageAnyProgramUptoCard : Claim7 := { stood := { row := portageAnyProgramUptoRow, standIns := [], harness := (true, "40585829caabc219b8385c6d8a5a76a3415f785846f8766bdcee91393af0724a"), looks := true }, kinds := [], alts := [], laidByText := true, laidKinds := [.handle], laidTests := true, laidLooks := .later }
def PortageAnyProgramUptoCardSaid : Prop := Claim7.holds Tryz.pinned (.plain (OpenSpec.upto portageAnyProgramSpec)) portageAnyProgramUptoCard
end Rows
end Go.Proofs.YtpfogphpeegfdaaGreatDoor
