/-
  RealSigns: the law.
-/
import Derived.Test.YtplakliggmakpaaSign
import Derived.Test.YtplakliggmakpaaOrderLaw
namespace Go.Proofs.Ytplakliggmakpaa
open Go.RowKit Ieee

set_option maxRecDepth 100000 in
theorem signsLaw (a b : Nat) (w : World) (ha : a < 18446744073709551616) (hb : b < 18446744073709551616) :
    Calls Try.prog 5 #[.int .u64 (a : Int), .int .u64 (b : Int)] w fun e w' => e = .returned (.bool true) ∧ Below w.heap.size w w' := by
  have c1 := add_any a b
  have c2 := mul_any a b
  have c3 := div_any a b
  have c4 := neg_any a ha
  have c5 := neg_any b hb
  have c6 := add_any b a
  rw [add_comm' b a] at c6
  have c7 := mul_any b a
  rw [mul_comm' b a] at c7
  have c8 := sub_any a (negN b) (neg_lt64 hb)
  rw [show subN a (negN b) = addN a (negN (negN b)) from rfl] at c8
  have c9 := neg_any (negN b) (neg_lt64 hb)
  have c10 := add_any a (negN (negN b))
  have c11 := neg_any (negN a) (neg_lt64 ha)
  rw [neg_neg ha] at c11
  have c12 := canon_any a ha
  have c13 := mul_any (negN a) b
  rw [mul_neg ha b] at c13
  have c14 := neg_any (mulN a b) (mul_lt64 a b)
  have c15 := mul_any a (negN b)
  rw [mul_neg2 a hb] at c15
  have c16 := div_any (negN a) b
  rw [div_neg ha b] at c16
  have c17 := neg_any (divN a b) (div_lt64 a b)
  have c18 := div_any a (negN b)
  rw [div_neg2 a hb] at c18
  have c19 := add_any (negN a) (negN b)
  have c20 := neg_any (addN a b) (add_lt64 a b)
  have c21 := sub_any a b hb
  rw [show subN a b = addN a (negN b) from rfl] at c21
  have c22 := add_any a (negN b)
  have cW := hide awake_any
  have HB := hide (Below.refl w.heap.size w)
  have b1 := band_un (addN a b) (add_lt64 a b)
  have hz := @add_neg a b ha hb
  have hr : rg (addN a b) = addN a b % 9223372036854775808 := rfl
  generalize addN a b % 9223372036854775808 = G at *
  rw [hr] at hz
  clear hr ha hb
  generalize negN (mulN a b) = NP at *
  generalize negN (divN a b) = NO at *
  generalize negN (addN a b) = NS at *
  generalize addN (negN a) (negN b) = MN at *
  generalize addN a (negN (negN b)) = X at *
  generalize addN a (negN b) = Y at *
  generalize negN (negN b) = NN at *
  generalize canonN a = C at *
  generalize addN a b = S at *
  generalize mulN a b = P at *
  generalize divN a b = O at *
  generalize negN a = M at *
  generalize negN b = N at *
  replace c1 := hide c1
  replace c2 := hide c2
  replace c3 := hide c3
  replace c4 := hide c4
  replace c5 := hide c5
  replace c6 := hide c6
  replace c7 := hide c7
  replace c8 := hide c8
  replace c9 := hide c9
  replace c10 := hide c10
  replace c11 := hide c11
  replace c12 := hide c12
  replace c13 := hide c13
  replace c14 := hide c14
  replace c15 := hide c15
  replace c16 := hide c16
  replace c17 := hide c17
  replace c18 := hide c18
  replace c19 := hide c19
  replace c20 := hide c20
  replace c21 := hide c21
  replace c22 := hide c22
  by_cases hG : G = 0
  · subst hG
    clear hz
    go_enter Try.func5, Try.ntmps5
    go_wp2_with fail
    refine (unhide c1 _).mono ?_
    rintro e w1 ⟨rfl, hb1⟩
    replace HB := hide ((unhide HB).trans (hb1.mono (unhide HB).size))
    clear hb1
    go_wp2_with fail
    refine (unhide c2 _).mono ?_
    rintro e w2 ⟨rfl, hb2⟩
    replace HB := hide ((unhide HB).trans (hb2.mono (unhide HB).size))
    clear hb2
    go_wp2_with fail
    refine (unhide c3 _).mono ?_
    rintro e w3 ⟨rfl, hb3⟩
    replace HB := hide ((unhide HB).trans (hb3.mono (unhide HB).size))
    clear hb3
    go_wp2_with fail
    refine (unhide c4 _).mono ?_
    rintro e w4 ⟨rfl, rfl⟩
    go_wp2_with fail
    refine (unhide c5 _).mono ?_
    rintro e w5 ⟨rfl, rfl⟩
    go_wp2_with fail
    refine (unhide c6 _).mono ?_
    rintro e w6 ⟨rfl, hb6⟩
    replace HB := hide ((unhide HB).trans (hb6.mono (unhide HB).size))
    clear hb6
    go_wp2_with fail
    refine (unhide c7 _).mono ?_
    rintro e w7 ⟨rfl, hb7⟩
    replace HB := hide ((unhide HB).trans (hb7.mono (unhide HB).size))
    clear hb7
    go_wp2_with fail
    refine (unhide c8 _).mono ?_
    rintro e w8 ⟨rfl, hb8⟩
    replace HB := hide ((unhide HB).trans (hb8.mono (unhide HB).size))
    clear hb8
    go_wp2_with fail
    refine (unhide c9 _).mono ?_
    rintro e w9 ⟨rfl, rfl⟩
    go_wp2_with fail
    refine (unhide c10 _).mono ?_
    rintro e w10 ⟨rfl, hb10⟩
    replace HB := hide ((unhide HB).trans (hb10.mono (unhide HB).size))
    clear hb10
    go_wp2_with fail
    refine (unhide c11 _).mono ?_
    rintro e w11 ⟨rfl, rfl⟩
    go_wp2_with fail
    refine (unhide c12 _).mono ?_
    rintro e w12 ⟨rfl, rfl⟩
    go_wp2_with fail
    refine (unhide c13 _).mono ?_
    rintro e w13 ⟨rfl, hb13⟩
    replace HB := hide ((unhide HB).trans (hb13.mono (unhide HB).size))
    clear hb13
    go_wp2_with fail
    refine (unhide c14 _).mono ?_
    rintro e w14 ⟨rfl, rfl⟩
    go_wp2_with fail
    refine (unhide c15 _).mono ?_
    rintro e w15 ⟨rfl, hb15⟩
    replace HB := hide ((unhide HB).trans (hb15.mono (unhide HB).size))
    clear hb15
    go_wp2_with fail
    refine (unhide c14 _).mono ?_
    rintro e w16 ⟨rfl, rfl⟩
    go_wp2_with fail
    refine (unhide c16 _).mono ?_
    rintro e w17 ⟨rfl, hb17⟩
    replace HB := hide ((unhide HB).trans (hb17.mono (unhide HB).size))
    clear hb17
    go_wp2_with fail
    refine (unhide c17 _).mono ?_
    rintro e w18 ⟨rfl, rfl⟩
    go_wp2_with fail
    refine (unhide c18 _).mono ?_
    rintro e w19 ⟨rfl, hb19⟩
    replace HB := hide ((unhide HB).trans (hb19.mono (unhide HB).size))
    clear hb19
    go_wp2_with fail
    refine (unhide c17 _).mono ?_
    rintro e w20 ⟨rfl, rfl⟩
    go_wp2_with fail
    refine (unhide c21 _).mono ?_
    rintro e w21 ⟨rfl, hb21⟩
    replace HB := hide ((unhide HB).trans (hb21.mono (unhide HB).size))
    clear hb21
    go_wp2_with fail
    refine (unhide c22 _).mono ?_
    rintro e w22 ⟨rfl, hb22⟩
    replace HB := hide ((unhide HB).trans (hb22.mono (unhide HB).size))
    clear hb22
    go_wp2_with fail
    refine (unhide cW _).mono ?_
    rintro e w23 ⟨rfl, hb23⟩
    replace HB := hide ((unhide HB).trans (hb23.mono (unhide HB).size))
    clear hb23
    go_wp2
    go_ret
    exact ⟨rfl, unhide HB⟩
  · obtain rfl := hz hG
    have d1 : ((G : Int) == 0) = false := by rw [beq_eq_false_iff_ne]; omega
    clear hz hG
    go_enter Try.func5, Try.ntmps5
    go_wp2_with fail
    refine (unhide c1 _).mono ?_
    rintro e w1 ⟨rfl, hb1⟩
    replace HB := hide ((unhide HB).trans (hb1.mono (unhide HB).size))
    clear hb1
    go_wp2_with fail
    refine (unhide c2 _).mono ?_
    rintro e w2 ⟨rfl, hb2⟩
    replace HB := hide ((unhide HB).trans (hb2.mono (unhide HB).size))
    clear hb2
    go_wp2_with fail
    refine (unhide c3 _).mono ?_
    rintro e w3 ⟨rfl, hb3⟩
    replace HB := hide ((unhide HB).trans (hb3.mono (unhide HB).size))
    clear hb3
    go_wp2_with fail
    refine (unhide c4 _).mono ?_
    rintro e w4 ⟨rfl, rfl⟩
    go_wp2_with fail
    refine (unhide c5 _).mono ?_
    rintro e w5 ⟨rfl, rfl⟩
    go_wp2_with fail
    refine (unhide c6 _).mono ?_
    rintro e w6 ⟨rfl, hb6⟩
    replace HB := hide ((unhide HB).trans (hb6.mono (unhide HB).size))
    clear hb6
    go_wp2_with fail
    refine (unhide c7 _).mono ?_
    rintro e w7 ⟨rfl, hb7⟩
    replace HB := hide ((unhide HB).trans (hb7.mono (unhide HB).size))
    clear hb7
    go_wp2_with fail
    refine (unhide c8 _).mono ?_
    rintro e w8 ⟨rfl, hb8⟩
    replace HB := hide ((unhide HB).trans (hb8.mono (unhide HB).size))
    clear hb8
    go_wp2_with fail
    refine (unhide c9 _).mono ?_
    rintro e w9 ⟨rfl, rfl⟩
    go_wp2_with fail
    refine (unhide c10 _).mono ?_
    rintro e w10 ⟨rfl, hb10⟩
    replace HB := hide ((unhide HB).trans (hb10.mono (unhide HB).size))
    clear hb10
    go_wp2_with fail
    refine (unhide c11 _).mono ?_
    rintro e w11 ⟨rfl, rfl⟩
    go_wp2_with fail
    refine (unhide c12 _).mono ?_
    rintro e w12 ⟨rfl, rfl⟩
    go_wp2_with fail
    refine (unhide c13 _).mono ?_
    rintro e w13 ⟨rfl, hb13⟩
    replace HB := hide ((unhide HB).trans (hb13.mono (unhide HB).size))
    clear hb13
    go_wp2_with fail
    refine (unhide c14 _).mono ?_
    rintro e w14 ⟨rfl, rfl⟩
    go_wp2_with fail
    refine (unhide c15 _).mono ?_
    rintro e w15 ⟨rfl, hb15⟩
    replace HB := hide ((unhide HB).trans (hb15.mono (unhide HB).size))
    clear hb15
    go_wp2_with fail
    refine (unhide c14 _).mono ?_
    rintro e w16 ⟨rfl, rfl⟩
    go_wp2_with fail
    refine (unhide c16 _).mono ?_
    rintro e w17 ⟨rfl, hb17⟩
    replace HB := hide ((unhide HB).trans (hb17.mono (unhide HB).size))
    clear hb17
    go_wp2_with fail
    refine (unhide c17 _).mono ?_
    rintro e w18 ⟨rfl, rfl⟩
    go_wp2_with fail
    refine (unhide c18 _).mono ?_
    rintro e w19 ⟨rfl, hb19⟩
    replace HB := hide ((unhide HB).trans (hb19.mono (unhide HB).size))
    clear hb19
    go_wp2_with fail
    refine (unhide c17 _).mono ?_
    rintro e w20 ⟨rfl, rfl⟩
    go_wp2_with fail
    refine (unhide c19 _).mono ?_
    rintro e w21 ⟨rfl, hb21⟩
    replace HB := hide ((unhide HB).trans (hb21.mono (unhide HB).size))
    clear hb21
    go_wp2_with fail
    refine (unhide c20 _).mono ?_
    rintro e w22 ⟨rfl, rfl⟩
    go_wp2_with fail
    refine (unhide c21 _).mono ?_
    rintro e w23 ⟨rfl, hb23⟩
    replace HB := hide ((unhide HB).trans (hb23.mono (unhide HB).size))
    clear hb23
    go_wp2_with fail
    refine (unhide c22 _).mono ?_
    rintro e w24 ⟨rfl, hb24⟩
    replace HB := hide ((unhide HB).trans (hb24.mono (unhide HB).size))
    clear hb24
    go_wp2_with fail
    refine (unhide cW _).mono ?_
    rintro e w25 ⟨rfl, hb25⟩
    replace HB := hide ((unhide HB).trans (hb25.mono (unhide HB).size))
    clear hb25
    go_wp2
    go_ret
    exact ⟨rfl, unhide HB⟩
end Go.Proofs.Ytplakliggmakpaa
