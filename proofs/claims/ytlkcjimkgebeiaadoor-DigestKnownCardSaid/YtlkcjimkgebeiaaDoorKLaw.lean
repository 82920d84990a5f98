/-
  The standard's digests, each length, whole blocks.
-/
import Derived.Test.YtlkcjimkgebeiaaDoorLengths
import Derived.Test.YtlkcjimkgebeiaaDoorBlocks
import Derived.Test.YtlkcjimkgebeiaaDoorShown
namespace Go.Proofs.YtlkcjimkgebeiaaDoor
open Go.RowKit

set_option maxHeartbeats 1000000 in
set_option maxRecDepth 100000 in
theorem knownLaw (w : World) (hK : KT w) : Calls Tryd.prog 5 #[] w fun e w' => e = .returned (.bool true) ∧ Below w.heap.size w w' := by
  have hS := hide shown_any
  have hL := hide lengths_any
  have hB := hide blocks_any
  have HK := hide hK
  clear hK
  go_enter Tryd.func5, Tryd.ntmps5
  go_wp2_with fail
  refine (unhide hS _ (unhide HK)).mono ?_
  rintro e w1 ⟨rfl, hb⟩
  have H1 := hide hb
  clear hb
  go_wp2_with fail
  refine (unhide hL _ ((unhide HK).below (unhide HK).2 (unhide H1))).mono ?_
  rintro e w2 ⟨rfl, hb⟩
  have H2 := hide ((unhide H1).trans (hb.mono (unhide H1).size))
  clear hb
  go_wp2_with fail
  refine (unhide hB _ ((unhide HK).below (unhide HK).2 (unhide H2))).mono ?_
  rintro e w3 ⟨rfl, hb⟩
  have H3 := hide ((unhide H2).trans (hb.mono (unhide H2).size))
  clear hb
  go_wp2
  go_ret
  exact ⟨rfl, unhide H3⟩
end Go.Proofs.YtlkcjimkgebeiaaDoor
