/-
  DERIVED. GIVEN WITH THE SEED: THE CARDS: each row of YthiaenkolakjeaaDoorRows.lean that lists a variable, with what it lists TIED to the program's text (the seventh form; the later family's looks); each row that meets fmt, with fmt's text TOLD by the authors' own Lean function (tested against real Go, not proved from fmt's source: count such statements apart). THE CARD IS WHAT COUNTS. Prove the row's statement (the work); the ties are given (YthiaenkolakjeaaDoorTie.lean); close each card by the builder's one call (the guide's Derived/Test/ToyasCard.lean, 'card_holds'). Laid BY PROGRAM, IN A SANDBOX (cutbox-door.mjs). By AI agents, Wed Nov 11 2026. No macro, syntax, notation, axiom, sorry.
-/
import Derived.Test.YthiaenkolakjeaaDoorRows
import GoSem.ClaimSeven
namespace Go.Proofs.YthiaenkolakjeaaDoor
namespace Rows

/-- THE TIED CARD OF 'portagelaw11.AsmQuotes'. -/
def asmQuotesCard : Claim7 := { stood := { row := asmQuotesRow, standIns := [], harness := (true, "35a957a158f7efc001f4d9fd522cad13523d38bdb39c519d9284e4d4b95fdbf0"), looks := true }, kinds := [], alts := [], laidByText := true, laidKinds := [.data, .data, .data, .sentinel, .sentinel], laidTests := true, laidLooks := .later }
def AsmQuotesCardSaid : Prop := Claim7.holds Tryd.pinned (.plain (OpenSpec.ofChange asmQuotesSpec)) asmQuotesCard

/-- THE TIED CARD OF 'portagelaw11.AsmQuoted'. -/
def asmQuotedCard : Claim7 := { stood := { row := asmQuotedRow, standIns := [], harness := (true, "35a957a158f7efc001f4d9fd522cad13523d38bdb39c519d9284e4d4b95fdbf0"), looks := true }, kinds := [], alts := [], laidByText := true, laidKinds := [.data, .data, .data, .sentinel, .sentinel], laidTests := true, laidLooks := .later }
def AsmQuotedCardSaid : Prop := Claim7.holds Tryd.pinned (.plain (OpenSpec.ofChange asmQuotedSpec)) asmQuotedCard

/-- THE SECOND FORM's CARD OF 'portagelaw11.AsmQuotes'. -/
def asmQuotesUptoCard : Claim7 := { stood := { row := asmQuotesUptoRow, standIns := [], harness := (true, "35a957a158f7efc001f4d9fd522cad13523d38bdb39c519d9284e4d4b95fdbf0"), looks := true }, kinds := [], alts := [], laidByText := true, laidKinds := [.data, .data, .data, .sentinel, .sentinel], laidTests := true, laidLooks := .later }
def AsmQuotesUptoCardSaid : Prop := Claim7.holds Tryd.pinned (.plain (OpenSpec.upto asmQuotesSpec)) asmQuotesUptoCard

/-- THE SECOND FORM's CARD OF 'portagelaw11.AsmQuoted'. -/
def asmQuotedUptoCard : Claim7 := { stood := { row := asmQuotedUptoRow, standIns := [], harness := (true, "35a957a158f7efc001f4d9fd522cad13523d38bdb39c519d9284e4d4b95fdbf0"), looks := true }, kinds := [], alts := [], laidByText := true, laidKinds := [.data, .data, .data, .sentinel, .sentinel], laidTests := true, laidLooks := .later }
def AsmQuotedUptoCardSaid : Prop := Claim7.holds Tryd.pinned (.plain (OpenSpec.upto asmQuotedSpec)) asmQuotedUptoCard
end Rows
end Go.Proofs.YthiaenkolakjeaaDoor
