/-
  RealProper: the law.
-/
import Derived.Test.YtplakliggmakpaaConv
import Derived.Test.YtplakliggmakpaaOrderLaw
namespace Go.Proofs.Ytplakliggmakpaa
open Go.RowKit Ieee

set_option maxRecDepth 100000 in
set_option maxHeartbeats 1600000 in
theorem properLaw (a b : Nat) (n : Int) (w : World) (ha : a < 18446744073709551616) (hb : b < 18446744073709551616) (_ : -9223372036854775808 ≤ n) (_ : n ≤ 9223372036854775807) :
    Calls Try.prog 3 #[.int .u64 (a : Int), .int .u64 (b : Int), .int .i64 n] w fun e w' => e = .returned (.bool true) ∧ Below w.heap.size w w' := by
  have c1 := add_any a b
  have c2 := sub_any a b hb
  have c3 := mul_any a b
  have c4 := div_any a b
  have p1 := proper_any (addN a b) (add_lt64 a b)
  rw [add_proper] at p1
  have p2 := proper_any (subN a b) (add_lt64 a _)
  rw [show properN (subN a b) = true from add_proper a _] at p2
  have p3 := proper_any (mulN a b) (mul_lt64 a b)
  rw [mul_proper] at p3
  have p4 := proper_any (divN a b) (div_lt64 a b)
  rw [div_proper] at p4
  have c5 := from_any n
  have i5 := isNaN_any (fromN n) (fromN_lt n)
  rw [fromN_notN] at i5
  have c6 := neg_any a ha
  have p6 := proper_any (negN a) (neg_lt64 ha)
  rw [neg_proper] at p6
  have c7 := sqrt_any a
  have p7 := proper_any (sqrtN a) (sqrt_lt64 a)
  rw [sqrt_proper] at p7
  have c8 := floor_any a ha
  have p8 := proper_any (floorN a) (floor_lt64 a)
  rw [floor_proper] at p8
  have c9 := hide (single_any a)
  have c10 := canon_any a ha
  have c11 := canon_any b hb
  have p10 := proper_any (canonN a) (canon_lt64 ha)
  rw [canon_proper] at p10
  have iA := isNaN_any a ha
  have iB := isNaN_any b hb
  have kX := class_any (canonN a) (canon_lt64 ha)
  rw [class_canon] at kX
  have kA := class_any a ha
  have kB := class_any b hb
  have d1 := add_any (canonN a) (canonN b)
  rw [add_canon] at d1
  have d2 := sub_any (canonN a) (canonN b) (canon_lt64 hb)
  rw [sub_canon a hb] at d2
  have d3 := mul_any (canonN a) (canonN b)
  rw [mul_canon] at d3
  have d4 := div_any (canonN a) (canonN b)
  rw [div_canon] at d4
  have cW := hide awake_any
  have be := bool_eql
  have HB := hide (Below.refl w.heap.size w)
  have zA := classN_zero a
  have zB := classN_zero b
  have hx : isN a = false → canonN a = a := canon_of_notN
  have hx2 : isN a = true → canonN a = 9221120237041090560 := canon_of_N
  clear ha hb
  generalize addN a b = s1 at *
  generalize subN a b = s2 at *
  generalize mulN a b = s3 at *
  generalize divN a b = s4 at *
  generalize fromN n = s5 at *
  generalize negN a = s6 at *
  generalize sqrtN a = s7 at *
  generalize floorN a = s8 at *
  generalize canonN a = x at *
  generalize canonN b = y at *
  generalize classN a = ka at *
  generalize classN b = kb at *
  generalize isN a = na at *
  generalize isN b = nb at *
  replace c1 := hide c1
  replace c2 := hide c2
  replace c3 := hide c3
  replace c4 := hide c4
  replace c5 := hide c5
  replace c6 := hide c6
  replace c7 := hide c7
  replace c8 := hide c8
  replace c10 := hide c10
  replace c11 := hide c11
  replace p1 := hide p1
  replace p2 := hide p2
  replace p3 := hide p3
  replace p4 := hide p4
  replace i5 := hide i5
  replace p6 := hide p6
  replace p7 := hide p7
  replace p8 := hide p8
  replace p10 := hide p10
  replace iA := hide iA
  replace iB := hide iB
  replace kX := hide kX
  replace kA := hide kA
  replace kB := hide kB
  replace d1 := hide d1
  replace d2 := hide d2
  replace d3 := hide d3
  replace d4 := hide d4
  cases na
  · obtain rfl := hx rfl
    clear hx hx2
    cases nb
    · skip
      go_enter Try.func3, Try.ntmps3
      go_wp2_with fail
      refine (unhide c1 _).mono ?_
      rintro e w1 ⟨rfl, hb1⟩
      replace HB := hide ((unhide HB).trans (hb1.mono (unhide HB).size))
      clear hb1
      go_wp2_with fail
      refine (unhide c2 _).mono ?_
      rintro e w2 ⟨rfl, hb2⟩
      replace HB := hide ((unhide HB).trans (hb2.mono (unhide HB).size))
      clear hb2
      go_wp2_with fail
      refine (unhide c3 _).mono ?_
      rintro e w3 ⟨rfl, hb3⟩
      replace HB := hide ((unhide HB).trans (hb3.mono (unhide HB).size))
      clear hb3
      go_wp2_with fail
      refine (unhide c4 _).mono ?_
      rintro e w4 ⟨rfl, hb4⟩
      replace HB := hide ((unhide HB).trans (hb4.mono (unhide HB).size))
      clear hb4
      go_wp2_with fail
      refine (unhide p1 _).mono ?_
      rintro e w5 ⟨rfl, rfl⟩
      go_wp2_with fail
      refine (unhide p2 _).mono ?_
      rintro e w6 ⟨rfl, rfl⟩
      go_wp2_with fail
      refine (unhide p3 _).mono ?_
      rintro e w7 ⟨rfl, rfl⟩
      go_wp2_with fail
      refine (unhide p4 _).mono ?_
      rintro e w8 ⟨rfl, rfl⟩
      go_wp2_with fail
      refine (unhide c5 _).mono ?_
      rintro e w9 ⟨rfl, rfl⟩
      go_wp2_with fail
      refine (unhide i5 _).mono ?_
      rintro e w10 ⟨rfl, rfl⟩
      go_wp2_with fail
      refine (unhide c6 _).mono ?_
      rintro e w11 ⟨rfl, rfl⟩
      go_wp2_with fail
      refine (unhide p6 _).mono ?_
      rintro e w12 ⟨rfl, rfl⟩
      go_wp2_with fail
      refine (unhide c7 _).mono ?_
      rintro e w13 ⟨rfl, hb13⟩
      replace HB := hide ((unhide HB).trans (hb13.mono (unhide HB).size))
      clear hb13
      go_wp2_with fail
      refine (unhide p7 _).mono ?_
      rintro e w14 ⟨rfl, rfl⟩
      go_wp2_with fail
      refine (unhide c8 _).mono ?_
      rintro e w15 ⟨rfl, hb15⟩
      replace HB := hide ((unhide HB).trans (hb15.mono (unhide HB).size))
      clear hb15
      go_wp2_with fail
      refine (unhide p8 _).mono ?_
      rintro e w16 ⟨rfl, rfl⟩
      go_wp2_with fail
      refine (unhide c9 _).mono ?_
      rintro e w17 ⟨r, rfl, hlt, hp, hb17⟩
      replace HB := hide ((unhide HB).trans (hb17.mono (unhide HB).size))
      have p9 := proper_any r hlt
      rw [hp] at p9
      replace p9 := hide p9
      clear hb17 hlt hp
      go_wp2_with fail
      refine (unhide p9 _).mono ?_
      rintro e w18 ⟨rfl, rfl⟩
      go_wp2_with fail
      refine (unhide c10 _).mono ?_
      rintro e w19 ⟨rfl, rfl⟩
      go_wp2_with fail
      refine (unhide c11 _).mono ?_
      rintro e w20 ⟨rfl, rfl⟩
      go_wp2_with fail
      refine (unhide p10 _).mono ?_
      rintro e w21 ⟨rfl, rfl⟩
      go_wp2_with fail
      refine (unhide iA _).mono ?_
      rintro e w22 ⟨rfl, rfl⟩
      go_wp2_with fail
      refine (unhide iA _).mono ?_
      rintro e w23 ⟨rfl, rfl⟩
      go_wp2_with fail
      refine (unhide kX _).mono ?_
      rintro e w24 ⟨rfl, rfl⟩
      go_wp2_with fail
      refine (unhide kA _).mono ?_
      rintro e w25 ⟨rfl, rfl⟩
      go_wp2_with fail
      refine (unhide d1 _).mono ?_
      rintro e w26 ⟨rfl, hb26⟩
      replace HB := hide ((unhide HB).trans (hb26.mono (unhide HB).size))
      clear hb26
      go_wp2_with fail
      refine (unhide d2 _).mono ?_
      rintro e w27 ⟨rfl, hb27⟩
      replace HB := hide ((unhide HB).trans (hb27.mono (unhide HB).size))
      clear hb27
      go_wp2_with fail
      refine (unhide d3 _).mono ?_
      rintro e w28 ⟨rfl, hb28⟩
      replace HB := hide ((unhide HB).trans (hb28.mono (unhide HB).size))
      clear hb28
      go_wp2_with fail
      refine (unhide d4 _).mono ?_
      rintro e w29 ⟨rfl, hb29⟩
      replace HB := hide ((unhide HB).trans (hb29.mono (unhide HB).size))
      clear hb29
      go_wp2_with fail
      refine (unhide iA _).mono ?_
      rintro e w30 ⟨rfl, rfl⟩
      go_wp2_with fail
      refine (unhide iB _).mono ?_
      rintro e w31 ⟨rfl, rfl⟩
      go_wp2_with fail
      refine (unhide kA _).mono ?_
      rintro e w32 ⟨rfl, rfl⟩
      go_wp2_with fail
      refine (unhide kB _).mono ?_
      rintro e w33 ⟨rfl, rfl⟩
      go_wp2_with fail
      refine (unhide cW _).mono ?_
      rintro e w34 ⟨rfl, hb34⟩
      replace HB := hide ((unhide HB).trans (hb34.mono (unhide HB).size))
      clear hb34
      go_wp2
      go_ret
      exact ⟨rfl, unhide HB⟩
    · skip
      go_enter Try.func3, Try.ntmps3
      go_wp2_with fail
      refine (unhide c1 _).mono ?_
      rintro e w1 ⟨rfl, hb1⟩
      replace HB := hide ((unhide HB).trans (hb1.mono (unhide HB).size))
      clear hb1
      go_wp2_with fail
      refine (unhide c2 _).mono ?_
      rintro e w2 ⟨rfl, hb2⟩
      replace HB := hide ((unhide HB).trans (hb2.mono (unhide HB).size))
      clear hb2
      go_wp2_with fail
      refine (unhide c3 _).mono ?_
      rintro e w3 ⟨rfl, hb3⟩
      replace HB := hide ((unhide HB).trans (hb3.mono (unhide HB).size))
      clear hb3
      go_wp2_with fail
      refine (unhide c4 _).mono ?_
      rintro e w4 ⟨rfl, hb4⟩
      replace HB := hide ((unhide HB).trans (hb4.mono (unhide HB).size))
      clear hb4
      go_wp2_with fail
      refine (unhide p1 _).mono ?_
      rintro e w5 ⟨rfl, rfl⟩
      go_wp2_with fail
      refine (unhide p2 _).mono ?_
      rintro e w6 ⟨rfl, rfl⟩
      go_wp2_with fail
      refine (unhide p3 _).mono ?_
      rintro e w7 ⟨rfl, rfl⟩
      go_wp2_with fail
      refine (unhide p4 _).mono ?_
      rintro e w8 ⟨rfl, rfl⟩
      go_wp2_with fail
      refine (unhide c5 _).mono ?_
      rintro e w9 ⟨rfl, rfl⟩
      go_wp2_with fail
      refine (unhide i5 _).mono ?_
      rintro e w10 ⟨rfl, rfl⟩
      go_wp2_with fail
      refine (unhide c6 _).mono ?_
      rintro e w11 ⟨rfl, rfl⟩
      go_wp2_with fail
      refine (unhide p6 _).mono ?_
      rintro e w12 ⟨rfl, rfl⟩
      go_wp2_with fail
      refine (unhide c7 _).mono ?_
      rintro e w13 ⟨rfl, hb13⟩
      replace HB := hide ((unhide HB).trans (hb13.mono (unhide HB).size))
      clear hb13
      go_wp2_with fail
      refine (unhide p7 _).mono ?_
      rintro e w14 ⟨rfl, rfl⟩
      go_wp2_with fail
      refine (unhide c8 _).mono ?_
      rintro e w15 ⟨rfl, hb15⟩
      replace HB := hide ((unhide HB).trans (hb15.mono (unhide HB).size))
      clear hb15
      go_wp2_with fail
      refine (unhide p8 _).mono ?_
      rintro e w16 ⟨rfl, rfl⟩
      go_wp2_with fail
      refine (unhide c9 _).mono ?_
      rintro e w17 ⟨r, rfl, hlt, hp, hb17⟩
      replace HB := hide ((unhide HB).trans (hb17.mono (unhide HB).size))
      have p9 := proper_any r hlt
      rw [hp] at p9
      replace p9 := hide p9
      clear hb17 hlt hp
      go_wp2_with fail
      refine (unhide p9 _).mono ?_
      rintro e w18 ⟨rfl, rfl⟩
      go_wp2_with fail
      refine (unhide c10 _).mono ?_
      rintro e w19 ⟨rfl, rfl⟩
      go_wp2_with fail
      refine (unhide c11 _).mono ?_
      rintro e w20 ⟨rfl, rfl⟩
      go_wp2_with fail
      refine (unhide p10 _).mono ?_
      rintro e w21 ⟨rfl, rfl⟩
      go_wp2_with fail
      refine (unhide iA _).mono ?_
      rintro e w22 ⟨rfl, rfl⟩
      go_wp2_with fail
      refine (unhide iA _).mono ?_
      rintro e w23 ⟨rfl, rfl⟩
      go_wp2_with fail
      refine (unhide kX _).mono ?_
      rintro e w24 ⟨rfl, rfl⟩
      go_wp2_with fail
      refine (unhide kA _).mono ?_
      rintro e w25 ⟨rfl, rfl⟩
      go_wp2_with fail
      refine (unhide d1 _).mono ?_
      rintro e w26 ⟨rfl, hb26⟩
      replace HB := hide ((unhide HB).trans (hb26.mono (unhide HB).size))
      clear hb26
      go_wp2_with fail
      refine (unhide d2 _).mono ?_
      rintro e w27 ⟨rfl, hb27⟩
      replace HB := hide ((unhide HB).trans (hb27.mono (unhide HB).size))
      clear hb27
      go_wp2_with fail
      refine (unhide d3 _).mono ?_
      rintro e w28 ⟨rfl, hb28⟩
      replace HB := hide ((unhide HB).trans (hb28.mono (unhide HB).size))
      clear hb28
      go_wp2_with fail
      refine (unhide d4 _).mono ?_
      rintro e w29 ⟨rfl, hb29⟩
      replace HB := hide ((unhide HB).trans (hb29.mono (unhide HB).size))
      clear hb29
      go_wp2_with fail
      refine (unhide iA _).mono ?_
      rintro e w30 ⟨rfl, rfl⟩
      go_wp2_with fail
      refine (unhide iB _).mono ?_
      rintro e w31 ⟨rfl, rfl⟩
      go_wp2_with fail
      refine (unhide kA _).mono ?_
      rintro e w32 ⟨rfl, rfl⟩
      go_wp2_with fail
      refine (unhide kB _).mono ?_
      rintro e w33 ⟨rfl, rfl⟩
      go_wp2_with fail
      refine (unhide cW _).mono ?_
      rintro e w34 ⟨rfl, hb34⟩
      replace HB := hide ((unhide HB).trans (hb34.mono (unhide HB).size))
      clear hb34
      go_wp2
      go_ret
      exact ⟨rfl, unhide HB⟩
  · obtain rfl := hx2 rfl
    clear hx hx2
    go_enter Try.func3, Try.ntmps3
    go_wp2_with fail
    refine (unhide c1 _).mono ?_
    rintro e w1 ⟨rfl, hb1⟩
    replace HB := hide ((unhide HB).trans (hb1.mono (unhide HB).size))
    clear hb1
    go_wp2_with fail
    refine (unhide c2 _).mono ?_
    rintro e w2 ⟨rfl, hb2⟩
    replace HB := hide ((unhide HB).trans (hb2.mono (unhide HB).size))
    clear hb2
    go_wp2_with fail
    refine (unhide c3 _).mono ?_
    rintro e w3 ⟨rfl, hb3⟩
    replace HB := hide ((unhide HB).trans (hb3.mono (unhide HB).size))
    clear hb3
    go_wp2_with fail
    refine (unhide c4 _).mono ?_
    rintro e w4 ⟨rfl, hb4⟩
    replace HB := hide ((unhide HB).trans (hb4.mono (unhide HB).size))
    clear hb4
    go_wp2_with fail
    refine (unhide p1 _).mono ?_
    rintro e w5 ⟨rfl, rfl⟩
    go_wp2_with fail
    refine (unhide p2 _).mono ?_
    rintro e w6 ⟨rfl, rfl⟩
    go_wp2_with fail
    refine (unhide p3 _).mono ?_
    rintro e w7 ⟨rfl, rfl⟩
    go_wp2_with fail
    refine (unhide p4 _).mono ?_
    rintro e w8 ⟨rfl, rfl⟩
    go_wp2_with fail
    refine (unhide c5 _).mono ?_
    rintro e w9 ⟨rfl, rfl⟩
    go_wp2_with fail
    refine (unhide i5 _).mono ?_
    rintro e w10 ⟨rfl, rfl⟩
    go_wp2_with fail
    refine (unhide c6 _).mono ?_
    rintro e w11 ⟨rfl, rfl⟩
    go_wp2_with fail
    refine (unhide p6 _).mono ?_
    rintro e w12 ⟨rfl, rfl⟩
    go_wp2_with fail
    refine (unhide c7 _).mono ?_
    rintro e w13 ⟨rfl, hb13⟩
    replace HB := hide ((unhide HB).trans (hb13.mono (unhide HB).size))
    clear hb13
    go_wp2_with fail
    refine (unhide p7 _).mono ?_
    rintro e w14 ⟨rfl, rfl⟩
    go_wp2_with fail
    refine (unhide c8 _).mono ?_
    rintro e w15 ⟨rfl, hb15⟩
    replace HB := hide ((unhide HB).trans (hb15.mono (unhide HB).size))
    clear hb15
    go_wp2_with fail
    refine (unhide p8 _).mono ?_
    rintro e w16 ⟨rfl, rfl⟩
    go_wp2_with fail
    refine (unhide c9 _).mono ?_
    rintro e w17 ⟨r, rfl, hlt, hp, hb17⟩
    replace HB := hide ((unhide HB).trans (hb17.mono (unhide HB).size))
    have p9 := proper_any r hlt
    rw [hp] at p9
    replace p9 := hide p9
    clear hb17 hlt hp
    go_wp2_with fail
    refine (unhide p9 _).mono ?_
    rintro e w18 ⟨rfl, rfl⟩
    go_wp2_with fail
    refine (unhide c10 _).mono ?_
    rintro e w19 ⟨rfl, rfl⟩
    go_wp2_with fail
    refine (unhide c11 _).mono ?_
    rintro e w20 ⟨rfl, rfl⟩
    go_wp2_with fail
    refine (unhide p10 _).mono ?_
    rintro e w21 ⟨rfl, rfl⟩
    go_wp2_with fail
    refine (unhide iA _).mono ?_
    rintro e w22 ⟨rfl, rfl⟩
    go_wp2_with fail
    refine (unhide iA _).mono ?_
    rintro e w23 ⟨rfl, rfl⟩
    go_wp2_with fail
    refine (unhide kX _).mono ?_
    rintro e w24 ⟨rfl, rfl⟩
    go_wp2_with fail
    refine (unhide kA _).mono ?_
    rintro e w25 ⟨rfl, rfl⟩
    go_wp2_with fail
    refine (unhide d1 _).mono ?_
    rintro e w26 ⟨rfl, hb26⟩
    replace HB := hide ((unhide HB).trans (hb26.mono (unhide HB).size))
    clear hb26
    go_wp2_with fail
    refine (unhide d2 _).mono ?_
    rintro e w27 ⟨rfl, hb27⟩
    replace HB := hide ((unhide HB).trans (hb27.mono (unhide HB).size))
    clear hb27
    go_wp2_with fail
    refine (unhide d3 _).mono ?_
    rintro e w28 ⟨rfl, hb28⟩
    replace HB := hide ((unhide HB).trans (hb28.mono (unhide HB).size))
    clear hb28
    go_wp2_with fail
    refine (unhide d4 _).mono ?_
    rintro e w29 ⟨rfl, hb29⟩
    replace HB := hide ((unhide HB).trans (hb29.mono (unhide HB).size))
    clear hb29
    go_wp2_with fail
    refine (unhide iA _).mono ?_
    rintro e w30 ⟨rfl, rfl⟩
    go_wp2_with fail
    refine (unhide kA _).mono ?_
    rintro e w31 ⟨rfl, rfl⟩
    go_wp2_with fail
    refine (unhide cW _).mono ?_
    rintro e w32 ⟨rfl, hb32⟩
    replace HB := hide ((unhide HB).trans (hb32.mono (unhide HB).size))
    clear hb32
    go_wp2
    go_ret
    exact ⟨rfl, unhide HB⟩
end Go.Proofs.Ytplakliggmakpaa
