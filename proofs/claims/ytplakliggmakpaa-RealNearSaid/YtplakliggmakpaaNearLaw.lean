/-
  RealNear: the law.
-/
import Derived.Test.YtplakliggmakpaaVal
import Derived.Test.YtplakliggmakpaaOrderLaw
namespace Go.Proofs.Ytplakliggmakpaa
open Go.RowKit Ieee

def twiceN (b : Nat) : Nat := if b < 4503599627370496 then b * 2 else b + 4503599627370496
set_option maxRecDepth 100000 in
theorem twice_any (b : Nat) (h : b < 9218868437227405312) (w : World) : Calls Try.prog 26 #[.int .u64 (b : Int)] w fun e w' => e = .returned (.int .u64 (twiceN b : Nat)) ∧ w' = w := by
  have hT : twiceN b = if b < 4503599627370496 then b * 2 else b + 4503599627370496 := rfl
  generalize twiceN b = T at *
  by_cases h1 : b < 4503599627370496
  · rw [if_pos h1] at hT
    subst hT
    have d1 : (b : Int) < 4503599627370496 := by omega
    clear h1
    go_enter Try.func26, Try.ntmps26
    go_wp2
    go_ret
    refine ⟨?_, rfl⟩
    first | rfl | (congr 2; go_num)
  · rw [if_neg h1] at hT
    subst hT
    have d1 : decide ((b : Int) < 4503599627370496) = false := by rw [decide_eq_false_iff_not]; omega
    clear h1
    go_enter Try.func26, Try.ntmps26
    go_wp2
    go_ret
    refine ⟨?_, rfl⟩
    first | rfl | (congr 2; go_num)

set_option maxRecDepth 100000 in
set_option maxHeartbeats 800000 in
theorem nearLaw (a b : Nat) (w : World) (ha : a < 18446744073709551616) (hb : b < 18446744073709551616) :
    Calls Try.prog 6 #[.int .u64 (a : Int), .int .u64 (b : Int)] w fun e w' => e = .returned (.bool true) ∧ Below w.heap.size w w' := by
  have cW := hide awake_any
  have HB := hide (Below.refl w.heap.size w)
  by_cases a0 : a = 0
  · subst a0
    clear ha hb
    go_enter Try.func6, Try.ntmps6
    go_wp2_with fail
    refine (unhide cW _).mono ?_
    rintro e w1 ⟨rfl, hb1⟩
    replace HB := hide ((unhide HB).trans (hb1.mono (unhide HB).size))
    clear hb1
    go_wp2
    go_ret
    exact ⟨rfl, unhide HB⟩
  have e0 : ((a : Int) == 0) = false := by rw [beq_eq_false_iff_ne]; omega
  by_cases b0 : b = 0
  · subst b0
    clear ha hb a0
    go_enter Try.func6, Try.ntmps6
    go_wp2_with fail
    refine (unhide cW _).mono ?_
    rintro e w1 ⟨rfl, hb1⟩
    replace HB := hide ((unhide HB).trans (hb1.mono (unhide HB).size))
    clear hb1
    go_wp2
    go_ret
    exact ⟨rfl, unhide HB⟩
  have e1 : ((b : Int) == 0) = false := by rw [beq_eq_false_iff_ne]; omega
  by_cases ai : 9218868437227405312 ≤ a
  · have e2 : (9218868437227405312 : Int) ≤ (a : Int) := by omega
    clear ha hb a0 b0 ai
    go_enter Try.func6, Try.ntmps6
    go_wp2_with fail
    refine (unhide cW _).mono ?_
    rintro e w1 ⟨rfl, hb1⟩
    replace HB := hide ((unhide HB).trans (hb1.mono (unhide HB).size))
    clear hb1
    go_wp2
    go_ret
    exact ⟨rfl, unhide HB⟩
  have e2 : decide ((9218868437227405312 : Int) ≤ (a : Int)) = false := by rw [decide_eq_false_iff_not]; omega
  by_cases bi : 9218868437227405312 ≤ b
  · have e3 : (9218868437227405312 : Int) ≤ (b : Int) := by omega
    clear ha hb a0 b0 ai bi
    go_enter Try.func6, Try.ntmps6
    go_wp2_with fail
    refine (unhide cW _).mono ?_
    rintro e w1 ⟨rfl, hb1⟩
    replace HB := hide ((unhide HB).trans (hb1.mono (unhide HB).size))
    clear hb1
    go_wp2
    go_ret
    exact ⟨rfl, unhide HB⟩
  have e3 : decide ((9218868437227405312 : Int) ≤ (b : Int)) = false := by rw [decide_eq_false_iff_not]; omega
  have tA := twice_any a (by omega)
  have tB := twice_any b (by omega)
  have uA : up (twiceN a) = 2 * up a := twice_up a
  have uB : up (twiceN b) = 2 * up b := twice_up b
  generalize twiceN a = TA at *
  generalize twiceN b = TB at *
  replace tA := hide tA
  replace tB := hide tB
  by_cases h1 : TB < a
  · have e4 : (TB : Int) < (a : Int) := by omega
    clear ha hb a0 b0 ai bi uA uB h1
    go_enter Try.func6, Try.ntmps6
    go_wp2_with fail
    refine (unhide tB _).mono ?_
    rintro e w1 ⟨rfl, rfl⟩
    go_wp2_with fail
    refine (unhide cW _).mono ?_
    rintro e w2 ⟨rfl, hb2⟩
    replace HB := hide ((unhide HB).trans (hb2.mono (unhide HB).size))
    clear hb2
    go_wp2
    go_ret
    exact ⟨rfl, unhide HB⟩
  have e4 : decide ((TB : Int) < (a : Int)) = false := by rw [decide_eq_false_iff_not]; omega
  have e4' : ¬ TB < a := h1
  by_cases h2 : TA < b
  · have e5 : (TA : Int) < (b : Int) := by omega
    clear ha hb a0 b0 ai bi uA uB
    go_enter Try.func6, Try.ntmps6
    go_wp2_with fail
    refine (unhide tB _).mono ?_
    rintro e w1 ⟨rfl, rfl⟩
    go_wp2_with fail
    refine (unhide tA _).mono ?_
    rintro e w2 ⟨rfl, rfl⟩
    go_wp2_with fail
    refine (unhide cW _).mono ?_
    rintro e w3 ⟨rfl, hb3⟩
    replace HB := hide ((unhide HB).trans (hb3.mono (unhide HB).size))
    clear hb3
    go_wp2
    go_ret
    exact ⟨rfl, unhide HB⟩
  have e5 : decide ((TA : Int) < (b : Int)) = false := by rw [decide_eq_false_iff_not]; omega
  have e5' : ¬ TA < b := h2
  have l1 := up_le (show a ≤ TB by omega)
  have l2 := up_le (show b ≤ TA by omega)
  have n1 := near_one a b (by omega) (by omega) (by omega) (by omega) (by omega)
  have n2 := near_one b a (by omega) (by omega) (by omega) (by omega) (by omega)
  have c1 := sub_any a b hb
  have c2 := add_any (subN a b) b
  rw [n1] at c2
  have c3 := sub_any b a ha
  have c4 := add_any (subN b a) a
  rw [n2] at c4
  generalize subN a b = X at *
  generalize subN b a = Y at *
  replace c1 := hide c1
  replace c2 := hide c2
  replace c3 := hide c3
  replace c4 := hide c4
  clear ha hb a0 b0 ai bi uA uB h1 h2 l1 l2 n1 n2
  go_enter Try.func6, Try.ntmps6
  go_wp2_with fail
  refine (unhide tB _).mono ?_
  rintro e w1 ⟨rfl, rfl⟩
  go_wp2_with fail
  refine (unhide tA _).mono ?_
  rintro e w2 ⟨rfl, rfl⟩
  go_wp2_with fail
  refine (unhide c1 _).mono ?_
  rintro e w3 ⟨rfl, hb3⟩
  replace HB := hide ((unhide HB).trans (hb3.mono (unhide HB).size))
  clear hb3
  go_wp2_with fail
  refine (unhide c2 _).mono ?_
  rintro e w4 ⟨rfl, hb4⟩
  replace HB := hide ((unhide HB).trans (hb4.mono (unhide HB).size))
  clear hb4
  go_wp2_with fail
  refine (unhide c3 _).mono ?_
  rintro e w5 ⟨rfl, hb5⟩
  replace HB := hide ((unhide HB).trans (hb5.mono (unhide HB).size))
  clear hb5
  go_wp2_with fail
  refine (unhide c4 _).mono ?_
  rintro e w6 ⟨rfl, hb6⟩
  replace HB := hide ((unhide HB).trans (hb6.mono (unhide HB).size))
  clear hb6
  go_wp2_with fail
  refine (unhide cW _).mono ?_
  rintro e w7 ⟨rfl, hb7⟩
  replace HB := hide ((unhide HB).trans (hb7.mono (unhide HB).size))
  clear hb7
  go_wp2
  go_ret
  exact ⟨rfl, unhide HB⟩
end Go.Proofs.Ytplakliggmakpaa
