/-
  A whole number out of its text: the two answers.
-/
import Derived.Test.YtakjojgclohocaaDParse
namespace Go.Proofs.Ytakjojgclohocaa
open Go.RowKit

set_option maxHeartbeats 1000000 in
set_option maxRecDepth 100000 in
theorem parseIntLaw (s : ByteArray) (w : World) (hs : s.size ≤ maxLen) :
    Calls Try.prog 3 #[.string s] w fun e w' => e = .returned (.bool true) ∧ Below w.heap.size w w' := by
  have hR := hide (fun w => ref_any s w (by unfold maxLen at hs; omega))
  have hP := hide (parse_any s)
  generalize hp : pres s.data.toList = p at *
  obtain ⟨p1, p2⟩ := p
  clear hp hs
  go_enter Try.func3, Try.ntmps3
  go_wp2_with fail
  refine (unhide hR _).mono ?_
  rintro e w1 ⟨rfl, rfl⟩
  go_wp2_with fail
  refine (unhide hP _).mono ?_
  rintro e w2 ⟨rfl, hb⟩
  have HB := hide hb
  clear hb
  go_wp2
  go_ret
  exact ⟨rfl, unhide HB⟩
end Go.Proofs.Ytakjojgclohocaa
