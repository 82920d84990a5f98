/-
  DigestKnown: the tied card.
-/
import Derived.Test.YtlkcjimkgebeiaaDoorKProof
namespace Go.Proofs.YtlkcjimkgebeiaaDoor.digestKnown
open Go

theorem card : Rows.DigestKnownCardSaid :=
  Claim7.holds_tied_plain_at .later [] [.data] true Rows.digestKnownCard.stood.harness false
    proved (fun _ h => by cases h) (by kernel_rfl) (fun _ h => by cases h) digestKnown_row_tie rfl ⟨rfl, rfl⟩ (by kernel_rfl) rfl
    (fun f fn hf hfn => by
      obtain rfl : f = 5 := Option.some.inj ((show Tryd.prog.funcNamed Rows.digestKnownRow.func = some 5 by kernel_rfl).symm.trans hf) |>.symm
      obtain rfl : fn = Tryd.f5 := (Option.some.inj (Tryd.func5.symm.trans hfn)).symm
      exact ⟨by kernel_rfl, fun j t ht => by
        rw [Tryd.params5] at ht
        simp at ht⟩)
    (by kernel_rfl)
#print axioms card
end Go.Proofs.YtlkcjimkgebeiaaDoor.digestKnown
