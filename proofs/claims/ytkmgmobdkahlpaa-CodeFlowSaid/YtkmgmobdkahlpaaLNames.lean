/-
  Names.
-/
import Derived.Test.YtkmgmobdkahlpaaFind
import Derived.BigQuiet
import Derived.Deep.Draws
namespace Go.Proofs.Ytkmgmobdkahlpaa
open Go.RowKit
theorem eqs_yes (s : ByteArray) : (s.toList == s.toList) = true := by simp

set_option maxRecDepth 100000 in
set_option maxHeartbeats 2000000 in
theorem namesLaw (op : Int) (s : ByteArray) (w : World) : Calls Try.prog 3 #[.int .i64 op, .string s] w fun e w' => e = .returned (.bool true) ∧ Below w.heap.size w w' := by
  have H1 := hide dName_any
  have H2 := hide name_any
  have H3 := hide dFind_any
  have H4 := hide find_any
  obtain ⟨n, hn⟩ : ∃ n, Hid (∀ w, Calls Try.prog 9 #[.int .i64 op] w fun e w' => e = .returned (.tuple #[.string n, .bool (isOp op)]) ∧ w' = w) ∧ Hid (∀ w, Calls Try.prog 10 #[.int .i64 op] w fun e w' => e = .returned (.tuple #[.string n, .bool (isOp op)]) ∧ w' = w) := ⟨nmI op, fun w => dName_any w op, fun w => name_any w op⟩
  obtain ⟨K1, K2⟩ := hn
  clear H1 H2
  generalize isOp op = b at *
  go_enter Try.func3, Try.ntmps3
  go_wp2_with fail
  refine (unhide K1 _).mono ?_
  rintro e w1 ⟨rfl, rfl⟩
  go_wp2_with fail
  refine (unhide K2 _).mono ?_
  rintro e w2 ⟨rfl, rfl⟩
  go_wp2_with fail
  refine (unhide H3 _ _).mono ?_
  rintro e w3 ⟨⟨a1, b1, rfl, hf1⟩, rfl⟩
  have F1 := hide hf1
  clear hf1
  go_wp2_with fail
  refine (unhide H4 _ _).mono ?_
  rintro e w4 ⟨⟨a2, b2, rfl, hf2⟩, rfl⟩
  obtain ⟨rfl, rfl⟩ := hf2.unique (unhide F1)
  clear hf2 F1
  have q := eqs_yes
  have e4 : ∀ (b : Bool) (w : World), (binOp .eql 4 (.bool b) (.bool b)).run Try.prog w = .ok (.bool true) w := fun b w => by cases b <;> kernel_rfl
  go_wp2_with fail
  go_ret
  exact ⟨rfl, Below.refl _ _⟩
end Go.Proofs.Ytkmgmobdkahlpaa
