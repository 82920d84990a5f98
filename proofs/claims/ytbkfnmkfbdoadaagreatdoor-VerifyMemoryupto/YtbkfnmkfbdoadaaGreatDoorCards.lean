/-
  DERIVED. GIVEN WITH THE SEED: THE CARDS: each row of YtbkfnmkfbdoadaaGreatDoorRows.lean that lists a variable, with what it lists TIED to the program's text (the seventh form; the later family's looks); each row that meets fmt, with fmt's text TOLD by the authors' own Lean function (tested against real Go, not proved from fmt's source: count such statements apart). THE CARD IS WHAT COUNTS. Prove the row's statement (the work); the ties are given (YtbkfnmkfbdoadaaGreatDoorTie.lean); close each card by the builder's one call (the guide's Derived/Test/ToyasCard.lean, 'card_holds'). Laid BY PROGRAM, IN A SANDBOX (cutbox-door.mjs). By AI agents, Wed Nov 11 2026. No macro, syntax, notation, axiom, sorry.
-/
import Derived.Test.YtbkfnmkfbdoadaaGreatDoorRows
import GoSem.ClaimSeven
namespace Go.Proofs.YtbkfnmkfbdoadaaGreatDoor
namespace Rows

/-- THE TIED CARD OF 'portagelaw10.VerifyProgram'. -/
def verifyProgramCard : Claim7 := { stood := { row := verifyProgramRow, standIns := [], harness := (true, "526b635dd437e78178f34fd74ec030eead30e98316cac2e75230491064461f81"), looks := true }, kinds := [], alts := [], laidByText := true, laidKinds := [.handle], laidTests := true, laidLooks := .later }
def VerifyProgramCardSaid : Prop := Claim7.holds Tryz.pinned (.plain (OpenSpec.ofChange verifyProgramSpec)) verifyProgramCard

/-- THE TIED CARD OF 'portagelaw10.VerifyMemory'. -/
def verifyMemoryCard : Claim7 := { stood := { row := verifyMemoryRow, standIns := [], harness := (true, "526b635dd437e78178f34fd74ec030eead30e98316cac2e75230491064461f81"), looks := true }, kinds := [], alts := [], laidByText := true, laidKinds := [.handle], laidTests := true, laidLooks := .later }
def VerifyMemoryCardSaid : Prop := Claim7.holds Tryz.pinned (.plain (OpenSpec.ofChange verifyMemorySpec)) verifyMemoryCard

/-- THE SECOND FORM's CARD OF 'portagelaw10.VerifyProgram'. -/
def verifyProgramUptoCard : Claim7 := { stood := { row := verifyProgramUptoRow, standIns := [], harness := (true, "526b635dd437e78178f34fd74ec030eead30e98316cac2e75230491064461f81"), looks := true }, kinds := [], alts := [], laidByText := true, laidKinds := [.handle], laidTests := true, laidLooks := .later }
def VerifyProgramUptoCardSaid : Prop := Claim7.holds Tryz.pinned (.plain (OpenSpec.upto verifyProgramSpec)) verifyProgramUptoCard

/-- THE SECOND FORM's CARD OF 'portagelaw10.VerifyMemory'. -/
def verifyMemoryUptoCard : Claim7 := { stood := { row := verifyMemoryUptoRow, standIns := [], harness := (true, "526b635dd437e78178f34fd74ec030eead30e98316cac2e75230491064461f81"), looks := true }, kinds := [], alts := [], laidByText := true, laidKinds := [.handle], laidTests := true, laidLooks := .later }
def VerifyMemoryUptoCardSaid : Prop := Claim7.holds Tryz.pinned (.plain (OpenSpec.upto verifyMemorySpec)) verifyMemoryUptoCard
end Rows
end Go.Proofs.YtbkfnmkfbdoadaaGreatDoor
