/-
  RealOrder: the law.
-/
import Derived.Test.YtcipmcmdhdaicaaOrd
namespace Go.Proofs.Ytcipmcmdhdaicaa
open Go.RowKit Ieee

theorem bool_eql : ∀ (b c : Bool) (w : World), (binOp .eql 4 (.bool b) (.bool c)).run Try.prog w = .ok (.bool (b == c)) w := fun b c w => by cases b <;> cases c <;> kernel_rfl
set_option maxRecDepth 100000 in
theorem awake_any (w : World) : Calls Try.prog 11 #[] w fun e w' => e = .returned (.bool true) ∧ Below w.heap.size w w' := by
  have c1 := add_any 4607182418800017408 4611686018427387904
  have c2 := mul_any 4611686018427387904 4613937818241073152
  have c3 := div_any 4618441417868443648 4613937818241073152
  have c4 := less_any 4607182418800017408 4611686018427387904
  have c5 := equal_any 4613937818241073152 4613937818241073152
  have c6 := sqrt_any 4607182418800017408
  have c7 := from_any 6
  rw [aw1] at c1
  rw [aw2] at c2
  rw [aw3] at c3
  rw [aw4] at c4
  rw [aw5] at c5
  rw [aw6] at c6
  rw [aw7] at c7
  replace c1 := hide c1
  replace c2 := hide c2
  replace c3 := hide c3
  replace c4 := hide c4
  replace c5 := hide c5
  replace c6 := hide c6
  replace c7 := hide c7
  have HB := hide (Below.refl w.heap.size w)
  go_enter Try.func11, Try.ntmps11
  go_wp2_with fail
  refine (unhide c1 _).mono ?_
  rintro e w1 ⟨rfl, hb1⟩
  replace HB := hide ((unhide HB).trans (hb1.mono (unhide HB).size))
  clear hb1
  go_wp2_with fail
  refine (unhide c2 _).mono ?_
  rintro e w2 ⟨rfl, hb2⟩
  replace HB := hide ((unhide HB).trans (hb2.mono (unhide HB).size))
  clear hb2
  go_wp2_with fail
  refine (unhide c3 _).mono ?_
  rintro e w3 ⟨rfl, hb3⟩
  replace HB := hide ((unhide HB).trans (hb3.mono (unhide HB).size))
  clear hb3
  go_wp2_with fail
  refine (unhide c4 _).mono ?_
  rintro e w4 ⟨rfl, rfl⟩
  go_wp2_with fail
  refine (unhide c5 _).mono ?_
  rintro e w5 ⟨rfl, rfl⟩
  go_wp2_with fail
  refine (unhide c6 _).mono ?_
  rintro e w6 ⟨rfl, hb6⟩
  replace HB := hide ((unhide HB).trans (hb6.mono (unhide HB).size))
  clear hb6
  go_wp2_with fail
  refine (unhide c7 _).mono ?_
  rintro e w7 ⟨rfl, rfl⟩
  go_wp2
  go_ret
  exact ⟨rfl, unhide HB⟩

end Go.Proofs.Ytcipmcmdhdaicaa
