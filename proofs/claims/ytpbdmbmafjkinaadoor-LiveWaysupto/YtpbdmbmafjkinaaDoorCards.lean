/-
  DERIVED. GIVEN WITH THE SEED: THE CARDS: each row of YtpbdmbmafjkinaaDoorRows.lean that lists a variable, with what it lists TIED to the program's text (the seventh form; the later family's looks); each row that meets fmt, with fmt's text TOLD by the authors' own Lean function (tested against real Go, not proved from fmt's source: count such statements apart). THE CARD IS WHAT COUNTS. Prove the row's statement (the work); the ties are given (YtpbdmbmafjkinaaDoorTie.lean); close each card by the builder's one call (the guide's Derived/Test/ToyasCard.lean, 'card_holds'). Laid BY PROGRAM, IN A SANDBOX (cutbox-door.mjs). By AI agents, Wed Nov 11 2026. No macro, syntax, notation, axiom, sorry.
-/
import Derived.Test.YtpbdmbmafjkinaaDoorRows
import GoSem.ClaimSeven
namespace Go.Proofs.YtpbdmbmafjkinaaDoor
namespace Rows

/-- THE TIED CARD OF 'portagelaw24.LiveAfter'. -/
def liveAfterCard : Claim7 := { stood := { row := liveAfterRow, standIns := [], harness := (true, "893952b3a7100d562ff2a779f3716d529a0cc2ea15835636df30b9205ebe3e52"), looks := false }, kinds := [], alts := [], laidByText := true, laidKinds := [.data], laidTests := true, laidLooks := .later }
def LiveAfterCardSaid : Prop := Claim7.holds Tryd.pinned (.plain (OpenSpec.ofChange liveAfterSpec)) liveAfterCard

/-- THE TIED CARD OF 'portagelaw24.LiveKnown'. -/
def liveKnownCard : Claim7 := { stood := { row := liveKnownRow, standIns := [], harness := (true, "893952b3a7100d562ff2a779f3716d529a0cc2ea15835636df30b9205ebe3e52"), looks := false }, kinds := [], alts := [], laidByText := true, laidKinds := [.data], laidTests := true, laidLooks := .later }
def LiveKnownCardSaid : Prop := Claim7.holds Tryd.pinned (.plain (OpenSpec.ofChange liveKnownSpec)) liveKnownCard

/-- THE TIED CARD OF 'portagelaw24.LiveWays'. -/
def liveWaysCard : Claim7 := { stood := { row := liveWaysRow, standIns := [], harness := (true, "893952b3a7100d562ff2a779f3716d529a0cc2ea15835636df30b9205ebe3e52"), looks := false }, kinds := [], alts := [], laidByText := true, laidKinds := [.data], laidTests := true, laidLooks := .later }
def LiveWaysCardSaid : Prop := Claim7.holds Tryd.pinned (.plain (OpenSpec.ofChange liveWaysSpec)) liveWaysCard

/-- THE TIED CARD OF 'portagelaw24.LiveTwice'. -/
def liveTwiceCard : Claim7 := { stood := { row := liveTwiceRow, standIns := [], harness := (true, "893952b3a7100d562ff2a779f3716d529a0cc2ea15835636df30b9205ebe3e52"), looks := false }, kinds := [], alts := [], laidByText := true, laidKinds := [.data], laidTests := true, laidLooks := .later }
def LiveTwiceCardSaid : Prop := Claim7.holds Tryd.pinned (.plain (OpenSpec.ofChange liveTwiceSpec)) liveTwiceCard

/-- THE SECOND FORM's CARD OF 'portagelaw24.LiveAfter'. -/
def liveAfterUptoCard : Claim7 := { stood := { row := liveAfterUptoRow, standIns := [], harness := (true, "893952b3a7100d562ff2a779f3716d529a0cc2ea15835636df30b9205ebe3e52"), looks := false }, kinds := [], alts := [], laidByText := true, laidKinds := [.data], laidTests := true, laidLooks := .later }
def LiveAfterUptoCardSaid : Prop := Claim7.holds Tryd.pinned (.plain (OpenSpec.upto liveAfterSpec)) liveAfterUptoCard

/-- THE SECOND FORM's CARD OF 'portagelaw24.LiveKnown'. -/
def liveKnownUptoCard : Claim7 := { stood := { row := liveKnownUptoRow, standIns := [], harness := (true, "893952b3a7100d562ff2a779f3716d529a0cc2ea15835636df30b9205ebe3e52"), looks := false }, kinds := [], alts := [], laidByText := true, laidKinds := [.data], laidTests := true, laidLooks := .later }
def LiveKnownUptoCardSaid : Prop := Claim7.holds Tryd.pinned (.plain (OpenSpec.upto liveKnownSpec)) liveKnownUptoCard

/-- THE SECOND FORM's CARD OF 'portagelaw24.LiveWays'. -/
def liveWaysUptoCard : Claim7 := { stood := { row := liveWaysUptoRow, standIns := [], harness := (true, "893952b3a7100d562ff2a779f3716d529a0cc2ea15835636df30b9205ebe3e52"), looks := false }, kinds := [], alts := [], laidByText := true, laidKinds := [.data], laidTests := true, laidLooks := .later }
def LiveWaysUptoCardSaid : Prop := Claim7.holds Tryd.pinned (.plain (OpenSpec.upto liveWaysSpec)) liveWaysUptoCard

/-- THE SECOND FORM's CARD OF 'portagelaw24.LiveTwice'. -/
def liveTwiceUptoCard : Claim7 := { stood := { row := liveTwiceUptoRow, standIns := [], harness := (true, "893952b3a7100d562ff2a779f3716d529a0cc2ea15835636df30b9205ebe3e52"), looks := false }, kinds := [], alts := [], laidByText := true, laidKinds := [.data], laidTests := true, laidLooks := .later }
def LiveTwiceUptoCardSaid : Prop := Claim7.holds Tryd.pinned (.plain (OpenSpec.upto liveTwiceSpec)) liveTwiceUptoCard
end Rows
end Go.Proofs.YtpbdmbmafjkinaaDoor
