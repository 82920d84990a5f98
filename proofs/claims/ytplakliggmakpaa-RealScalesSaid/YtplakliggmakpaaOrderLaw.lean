/-
  RealOrder: the law.
-/
import Derived.Test.YtplakliggmakpaaOrd
namespace Go.Proofs.Ytplakliggmakpaa
open Go.RowKit Ieee

theorem bool_eql : ∀ (b c : Bool) (w : World), (binOp .eql 4 (.bool b) (.bool c)).run Try.prog w = .ok (.bool (b == c)) w := fun b c w => by cases b <;> cases c <;> kernel_rfl
set_option maxRecDepth 100000 in
theorem awake_any (w : World) : Calls Try.prog 22 #[] w fun e w' => e = .returned (.bool true) ∧ Below w.heap.size w w' := by
  have c1 := add_any 4607182418800017408 4611686018427387904
  have c2 := mul_any 4611686018427387904 4613937818241073152
  have c3 := div_any 4618441417868443648 4613937818241073152
  have c4 := less_any 4607182418800017408 4611686018427387904
  have c5 := equal_any 4613937818241073152 4613937818241073152
  have c6 := sqrt_any 4607182418800017408
  have c7 := from_any 6
  rw [aw1] at c1
  rw [aw2] at c2
  rw [aw3] at c3
  rw [aw4] at c4
  rw [aw5] at c5
  rw [aw6] at c6
  rw [aw7] at c7
  replace c1 := hide c1
  replace c2 := hide c2
  replace c3 := hide c3
  replace c4 := hide c4
  replace c5 := hide c5
  replace c6 := hide c6
  replace c7 := hide c7
  have HB := hide (Below.refl w.heap.size w)
  go_enter Try.func22, Try.ntmps22
  go_wp2_with fail
  refine (unhide c1 _).mono ?_
  rintro e w1 ⟨rfl, hb1⟩
  replace HB := hide ((unhide HB).trans (hb1.mono (unhide HB).size))
  clear hb1
  go_wp2_with fail
  refine (unhide c2 _).mono ?_
  rintro e w2 ⟨rfl, hb2⟩
  replace HB := hide ((unhide HB).trans (hb2.mono (unhide HB).size))
  clear hb2
  go_wp2_with fail
  refine (unhide c3 _).mono ?_
  rintro e w3 ⟨rfl, hb3⟩
  replace HB := hide ((unhide HB).trans (hb3.mono (unhide HB).size))
  clear hb3
  go_wp2_with fail
  refine (unhide c4 _).mono ?_
  rintro e w4 ⟨rfl, rfl⟩
  go_wp2_with fail
  refine (unhide c5 _).mono ?_
  rintro e w5 ⟨rfl, rfl⟩
  go_wp2_with fail
  refine (unhide c6 _).mono ?_
  rintro e w6 ⟨rfl, hb6⟩
  replace HB := hide ((unhide HB).trans (hb6.mono (unhide HB).size))
  clear hb6
  go_wp2_with fail
  refine (unhide c7 _).mono ?_
  rintro e w7 ⟨rfl, rfl⟩
  go_wp2
  go_ret
  exact ⟨rfl, unhide HB⟩

set_option maxRecDepth 100000 in
theorem orderLaw (a b : Nat) (w : World) (ha : a < 18446744073709551616) (hb : b < 18446744073709551616) :
    Calls Try.prog 4 #[.int .u64 (a : Int), .int .u64 (b : Int)] w fun e w' => e = .returned (.bool true) ∧ Below w.heap.size w w' := by
  have cA := isNaN_any a ha
  have cB := isNaN_any b hb
  have cL := less_any a b
  have cE := equal_any a b
  have kA := key_any a ha
  have kB := key_any b hb
  have cW := hide awake_any
  have be := bool_eql
  have HB := hide (Below.refl w.heap.size w)
  cases na : isN a
  · cases nb : isN b
    · rw [na] at cA
      rw [nb] at cB
      rw [less_eq a b ha hb na nb] at cL
      rw [equal_eq a b ha hb na nb] at cE
      clear na nb ha hb
      generalize keyN a = ka at *
      generalize keyN b = kb at *
      replace cA := hide cA
      replace cB := hide cB
      replace kA := hide kA
      replace kB := hide kB
      rcases Int.lt_trichotomy ka kb with h | h | h
      · rw [decide_eq_true h] at cL
        rw [decide_eq_false (show ¬ ka = kb by omega)] at cE
        replace cL := hide cL
        replace cE := hide cE
        have d1 : (ka == kb) = false := by rw [beq_eq_false_iff_ne]; omega
        go_enter Try.func4, Try.ntmps4
        go_wp2_with fail
        refine (unhide cA _).mono ?_
        rintro e w1 ⟨rfl, rfl⟩
        go_wp2_with fail
        refine (unhide cB _).mono ?_
        rintro e w2 ⟨rfl, rfl⟩
        go_wp2_with fail
        refine (unhide cL _).mono ?_
        rintro e w3 ⟨rfl, rfl⟩
        go_wp2_with fail
        refine (unhide kA _).mono ?_
        rintro e w4 ⟨rfl, rfl⟩
        go_wp2_with fail
        refine (unhide kB _).mono ?_
        rintro e w5 ⟨rfl, rfl⟩
        go_wp2_with fail
        refine (unhide cE _).mono ?_
        rintro e w6 ⟨rfl, rfl⟩
        go_wp2_with fail
        refine (unhide kA _).mono ?_
        rintro e w7 ⟨rfl, rfl⟩
        go_wp2_with fail
        refine (unhide kB _).mono ?_
        rintro e w8 ⟨rfl, rfl⟩
        go_wp2
        go_ret
        exact ⟨rfl, unhide HB⟩
      · rw [decide_eq_false (show ¬ ka < kb by omega)] at cL
        rw [decide_eq_true h] at cE
        replace cL := hide cL
        replace cE := hide cE
        have d1 : (ka == kb) = true := by rw [beq_iff_eq]; omega
        have d2 : decide (ka < kb) = false := by rw [decide_eq_false_iff_not]; omega
        clear h
        go_enter Try.func4, Try.ntmps4
        go_wp2_with fail
        refine (unhide cA _).mono ?_
        rintro e w1 ⟨rfl, rfl⟩
        go_wp2_with fail
        refine (unhide cB _).mono ?_
        rintro e w2 ⟨rfl, rfl⟩
        go_wp2_with fail
        refine (unhide cL _).mono ?_
        rintro e w3 ⟨rfl, rfl⟩
        go_wp2_with fail
        refine (unhide kA _).mono ?_
        rintro e w4 ⟨rfl, rfl⟩
        go_wp2_with fail
        refine (unhide kB _).mono ?_
        rintro e w5 ⟨rfl, rfl⟩
        go_wp2_with fail
        refine (unhide cE _).mono ?_
        rintro e w6 ⟨rfl, rfl⟩
        go_wp2_with fail
        refine (unhide kA _).mono ?_
        rintro e w7 ⟨rfl, rfl⟩
        go_wp2_with fail
        refine (unhide kB _).mono ?_
        rintro e w8 ⟨rfl, rfl⟩
        go_wp2
        go_ret
        exact ⟨rfl, unhide HB⟩
      · rw [decide_eq_false (show ¬ ka < kb by omega)] at cL
        rw [decide_eq_false (show ¬ ka = kb by omega)] at cE
        replace cL := hide cL
        replace cE := hide cE
        have d1 : (ka == kb) = false := by rw [beq_eq_false_iff_ne]; omega
        have d2 : decide (ka < kb) = false := by rw [decide_eq_false_iff_not]; omega
        clear h
        go_enter Try.func4, Try.ntmps4
        go_wp2_with fail
        refine (unhide cA _).mono ?_
        rintro e w1 ⟨rfl, rfl⟩
        go_wp2_with fail
        refine (unhide cB _).mono ?_
        rintro e w2 ⟨rfl, rfl⟩
        go_wp2_with fail
        refine (unhide cL _).mono ?_
        rintro e w3 ⟨rfl, rfl⟩
        go_wp2_with fail
        refine (unhide kA _).mono ?_
        rintro e w4 ⟨rfl, rfl⟩
        go_wp2_with fail
        refine (unhide kB _).mono ?_
        rintro e w5 ⟨rfl, rfl⟩
        go_wp2_with fail
        refine (unhide cE _).mono ?_
        rintro e w6 ⟨rfl, rfl⟩
        go_wp2_with fail
        refine (unhide kA _).mono ?_
        rintro e w7 ⟨rfl, rfl⟩
        go_wp2_with fail
        refine (unhide kB _).mono ?_
        rintro e w8 ⟨rfl, rfl⟩
        go_wp2
        go_ret
        exact ⟨rfl, unhide HB⟩
    · rw [na] at cA
      rw [nb] at cB
      rw [less_N a b (.inr nb)] at cL
      rw [equal_N a b (.inr nb)] at cE
      replace cA := hide cA
      replace cB := hide cB
      replace cL := hide cL
      replace cE := hide cE
      clear na nb ha hb kA kB
      go_enter Try.func4, Try.ntmps4
      go_wp2_with fail
      refine (unhide cA _).mono ?_
      rintro e w1 ⟨rfl, rfl⟩
      go_wp2_with fail
      refine (unhide cB _).mono ?_
      rintro e w2 ⟨rfl, rfl⟩
      go_wp2_with fail
      refine (unhide cL _).mono ?_
      rintro e w3 ⟨rfl, rfl⟩
      go_wp2_with fail
      refine (unhide cE _).mono ?_
      rintro e w4 ⟨rfl, rfl⟩
      go_wp2_with fail
      refine (unhide cW _).mono ?_
      rintro e w5 ⟨rfl, hb5⟩
      replace HB := hide ((unhide HB).trans (hb5.mono (unhide HB).size))
      clear hb5
      go_wp2
      go_ret
      exact ⟨rfl, unhide HB⟩
  · rw [na] at cA
    rw [less_N a b (.inl na)] at cL
    rw [equal_N a b (.inl na)] at cE
    replace cA := hide cA
    replace cL := hide cL
    replace cE := hide cE
    clear na ha hb kA kB cB
    go_enter Try.func4, Try.ntmps4
    go_wp2_with fail
    refine (unhide cA _).mono ?_
    rintro e w1 ⟨rfl, rfl⟩
    go_wp2_with fail
    refine (unhide cL _).mono ?_
    rintro e w2 ⟨rfl, rfl⟩
    go_wp2_with fail
    refine (unhide cE _).mono ?_
    rintro e w3 ⟨rfl, rfl⟩
    go_wp2_with fail
    refine (unhide cW _).mono ?_
    rintro e w4 ⟨rfl, hb4⟩
    replace HB := hide ((unhide HB).trans (hb4.mono (unhide HB).size))
    clear hb4
    go_wp2
    go_ret
    exact ⟨rfl, unhide HB⟩
end Go.Proofs.Ytplakliggmakpaa
