/-
  DERIVED. GIVEN WITH THE SEED: THE CARDS: each row of YtbphddocgdihjaaDoorRows.lean that lists a variable, with what it lists TIED to the program's text (the seventh form; the later family's looks); each row that meets fmt, with fmt's text TOLD by the authors' own Lean function (tested against real Go, not proved from fmt's source: count such statements apart). THE CARD IS WHAT COUNTS. Prove the row's statement (the work); the ties are given (YtbphddocgdihjaaDoorTie.lean); close each card by the builder's one call (the guide's Derived/Test/ToyasCard.lean, 'card_holds'). Laid BY PROGRAM, IN A SANDBOX (cutbox-door.mjs). By AI agents, Wed Nov 11 2026. No macro, syntax, notation, axiom, sorry.
-/
import Derived.Test.YtbphddocgdihjaaDoorRows
import GoSem.ClaimSeven
namespace Go.Proofs.YtbphddocgdihjaaDoor
namespace Rows

/-- THE TIED CARD OF 'portagelaw10.VerifyHeights'. -/
def verifyHeightsCard : Claim7 := { stood := { row := verifyHeightsRow, standIns := [], harness := (true, "4a1b5cca9ed43d04b18bd2e92f0a87e23501826e65aad8335d2f6362a12ae4d5"), looks := true }, kinds := [], alts := [], laidByText := true, laidKinds := [.handle], laidTests := true, laidLooks := .later }
def VerifyHeightsCardSaid : Prop := Claim7.holds Tryd.pinned (.plain (OpenSpec.ofChange verifyHeightsSpec)) verifyHeightsCard

/-- THE TIED CARD OF 'portagelaw10.VerifyTakes'. -/
def verifyTakesCard : Claim7 := { stood := { row := verifyTakesRow, standIns := [], harness := (true, "4a1b5cca9ed43d04b18bd2e92f0a87e23501826e65aad8335d2f6362a12ae4d5"), looks := true }, kinds := [], alts := [], laidByText := true, laidKinds := [.handle], laidTests := true, laidLooks := .later }
def VerifyTakesCardSaid : Prop := Claim7.holds Tryd.pinned (.plain (OpenSpec.ofChange verifyTakesSpec)) verifyTakesCard

/-- THE TIED CARD OF 'portagelaw10.VerifyApart'. -/
def verifyApartCard : Claim7 := { stood := { row := verifyApartRow, standIns := [], harness := (true, "4a1b5cca9ed43d04b18bd2e92f0a87e23501826e65aad8335d2f6362a12ae4d5"), looks := true }, kinds := [], alts := [], laidByText := true, laidKinds := [.handle], laidTests := true, laidLooks := .later }
def VerifyApartCardSaid : Prop := Claim7.holds Tryd.pinned (.plain (OpenSpec.ofChange verifyApartSpec)) verifyApartCard

/-- THE SECOND FORM's CARD OF 'portagelaw10.VerifyHeights'. -/
def verifyHeightsUptoCard : Claim7 := { stood := { row := verifyHeightsUptoRow, standIns := [], harness := (true, "4a1b5cca9ed43d04b18bd2e92f0a87e23501826e65aad8335d2f6362a12ae4d5"), looks := true }, kinds := [], alts := [], laidByText := true, laidKinds := [.handle], laidTests := true, laidLooks := .later }
def VerifyHeightsUptoCardSaid : Prop := Claim7.holds Tryd.pinned (.plain (OpenSpec.upto verifyHeightsSpec)) verifyHeightsUptoCard

/-- THE SECOND FORM's CARD OF 'portagelaw10.VerifyTakes'. -/
def verifyTakesUptoCard : Claim7 := { stood := { row := verifyTakesUptoRow, standIns := [], harness := (true, "4a1b5cca9ed43d04b18bd2e92f0a87e23501826e65aad8335d2f6362a12ae4d5"), looks := true }, kinds := [], alts := [], laidByText := true, laidKinds := [.handle], laidTests := true, laidLooks := .later }
def VerifyTakesUptoCardSaid : Prop := Claim7.holds Tryd.pinned (.plain (OpenSpec.upto verifyTakesSpec)) verifyTakesUptoCard

/-- THE SECOND FORM's CARD OF 'portagelaw10.VerifyApart'. -/
def verifyApartUptoCard : Claim7 := { stood := { row := verifyApartUptoRow, standIns := [], harness := (true, "4a1b5cca9ed43d04b18bd2e92f0a87e23501826e65aad8335d2f6362a12ae4d5"), looks := true }, kinds := [], alts := [], laidByText := true, laidKinds := [.handle], laidTests := true, laidLooks := .later }
def VerifyApartUptoCardSaid : Prop := Claim7.holds Tryd.pinned (.plain (OpenSpec.upto verifyApartSpec)) verifyApartUptoCard
end Rows
end Go.Proofs.YtbphddocgdihjaaDoor
