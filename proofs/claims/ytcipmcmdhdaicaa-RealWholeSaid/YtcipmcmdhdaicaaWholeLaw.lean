/-
  RealWhole: the law.
-/
import Derived.Test.YtcipmcmdhdaicaaToInt
import Derived.Test.YtcipmcmdhdaicaaConv
namespace Go.Proofs.Ytcipmcmdhdaicaa
open Go.RowKit Ieee

theorem to_from (T : Nat) (hT : T = 1074) (i : Int) (hi : i.natAbs ≤ 9007199254740992) : toN T (fromN i) = (i, true) := by
  obtain ⟨a1, a2, a3, a4⟩ := from_fin T hT i hi
  have hp := Nat.two_pow_pos T
  have hr : rg (fromN i) < 4890909195324358656 := by
    refine up_lt_iff.1 ?_
    rw [a3, up_K T hT]
    exact Nat.mul_lt_mul_of_pos_right (by omega) hp
  have hk := key_S (fromN i) (fromN_lt i)
  rw [toN_yes T _ (fromN_notN i) (by rw [hk]; split <;> omega) (by rw [hk]; split <;> omega), a2, a3, Nat.mul_div_cancel _ hp]
  by_cases h : i < 0
  · rw [decide_eq_true h, if_pos rfl]; congr 1; omega
  · rw [decide_eq_false h, if_neg (by simp)]; congr 1; omega
theorem floor_div (i j : Nat) (hi : 1 ≤ i) (hj : 1 ≤ j) (hi2 : i ≤ 4503599627370496) (hj2 : j ≤ 4503599627370496) : floorN (divN (fromN i) (fromN j)) = fromN ((i / j : Nat) : Int) := by
  obtain ⟨T, hT⟩ : ∃ T, T = 1074 := ⟨_, rfl⟩
  obtain ⟨r, hr, hlt, hq⟩ := div_whole T hT i j hi hj hi2 hj2
  rw [hr, floor_fin T _ hT (by rw [rg_word _ (by omega)]; exact hlt), sg_word _ (by omega), from_val T hT]
  unfold flo
  rw [rg_word _ (by omega), sg_word _ (by omega), hq, Bool.false_and, Int.natAbs_natCast, decide_eq_false (show ¬ ((i / j : Nat) : Int) < 0 from Int.not_lt.2 (Int.natCast_nonneg _))]
  rfl

set_option maxRecDepth 100000 in
set_option maxHeartbeats 800000 in
theorem quotients_any (u v : Nat) (hu : u < 18446744073709551616) (hv : v < 18446744073709551616) (w : World) :
    Calls Try.prog 5 #[.int .u64 (u : Int), .int .u64 (v : Int)] w fun e w' => e = .returned (.bool true) ∧ Below w.heap.size w w' := by
  have cW := hide awake_any
  have HB := hide (Below.refl w.heap.size w)
  obtain ⟨T, hT⟩ : ∃ T, T = 1074 := ⟨_, rfl⟩
  obtain ⟨I, hI⟩ : ∃ I : Nat, (u : Int) % 4503599627370496 + 1 = (I : Int) := ⟨u % 4503599627370496 + 1, by omega⟩
  obtain ⟨J, hJ⟩ : ∃ J : Nat, (v : Int) % 4503599627370496 + 1 = (J : Int) := ⟨v % 4503599627370496 + 1, by omega⟩
  have i1 : 1 ≤ I := by omega
  have i2 : I ≤ 4503599627370496 := by omega
  have j1 : 1 ≤ J := by omega
  have j2 : J ≤ 4503599627370496 := by omega
  have c1 := from_any (I : Int)
  have c2 := from_any (J : Int)
  have c3 := div_any (fromN I) (fromN J)
  have c4 := floor_any (divN (fromN I) (fromN J)) (div_lt64 _ _)
  rw [floor_div I J i1 j1 i2 j2] at c4
  have hQ : I / J ≤ 4503599627370496 := Nat.le_trans (Nat.div_le_self I J) i2
  have c5 := toInt_any T hT (fromN ((I / J : Nat) : Int)) (fromN_lt _)
  rw [to_from T hT _ (by rw [Int.natAbs_natCast]; omega)] at c5
  have c6 := from_any ((I / J : Nat) : Int)
  rw [← hI] at c1
  rw [← hJ] at c2
  have hq : ((u : Int) % 4503599627370496 + 1).tdiv ((v : Int) % 4503599627370496 + 1) = ((I / J : Nat) : Int) := by rw [hI, hJ]; rfl
  have hq2 : ((u : Int) % 4503599627370496 + 1) / ((v : Int) % 4503599627370496 + 1) = ((I / J : Nat) : Int) := by rw [hI, hJ]; rfl
  have hne : ((v : Int) % 4503599627370496 + 1) ≠ 0 := by omega
  generalize divN (fromN I) (fromN J) = D at *
  generalize I / J = Q at *
  generalize fromN (Q : Int) = FQ at *
  rw [hI] at c1
  rw [hJ] at c2
  generalize fromN (I : Int) = FI at *
  generalize fromN (J : Int) = FJ at *
  rw [← hI] at c1
  rw [← hJ] at c2
  replace c1 := hide c1
  replace c2 := hide c2
  replace c3 := hide c3
  replace c4 := hide c4
  replace c5 := hide c5
  replace c6 := hide c6
  clear hI hJ i1 i2 j1 j2
  go_enter Try.func5, Try.ntmps5
  go_wp2_with fail
  refine (unhide c1 _).mono ?_
  rintro e w1 ⟨rfl, rfl⟩
  go_wp2_with fail
  refine (unhide c2 _).mono ?_
  rintro e w2 ⟨rfl, rfl⟩
  go_wp2_with fail
  refine (unhide c3 _).mono ?_
  rintro e w3 ⟨rfl, hb3⟩
  replace HB := hide ((unhide HB).trans (hb3.mono (unhide HB).size))
  clear hb3
  go_wp2_with fail
  refine (unhide c4 _).mono ?_
  rintro e w4 ⟨rfl, hb4⟩
  replace HB := hide ((unhide HB).trans (hb4.mono (unhide HB).size))
  clear hb4
  go_wp2_with fail
  refine (unhide c5 _).mono ?_
  rintro e w5 ⟨rfl, rfl⟩
  go_wp2_with fail
  refine (unhide c6 _).mono ?_
  rintro e w6 ⟨rfl, rfl⟩
  go_wp2_with fail
  refine (unhide cW _).mono ?_
  rintro e w7 ⟨rfl, hb7⟩
  replace HB := hide ((unhide HB).trans (hb7.mono (unhide HB).size))
  clear hb7
  go_wp2
  go_ret
  exact ⟨rfl, unhide HB⟩

theorem wrap_nat (x : Int) : ∃ X : Nat, IntKind.u64.wrap x = (X : Int) ∧ X < 18446744073709551616 := by
  have h1 : 0 ≤ IntKind.u64.wrap x ∧ IntKind.u64.wrap x < 18446744073709551616 := by rw [IntKind.wrap_u64]; omega
  exact ⟨(IntKind.u64.wrap x).toNat, by omega, by omega⟩
set_option maxRecDepth 100000 in
set_option maxHeartbeats 800000 in
theorem wholeLaw (x y : Int) (w : World) (h1 : -9223372036854775808 ≤ x) (h2 : x ≤ 9223372036854775807) (h3 : -9223372036854775808 ≤ y) (h4 : y ≤ 9223372036854775807) :
    Calls Try.prog 3 #[.int .i64 x, .int .i64 y] w fun e w' => e = .returned (.bool true) ∧ Below w.heap.size w w' := by
  have cW := hide awake_any
  have HB := hide (Below.refl w.heap.size w)
  obtain ⟨X, hX, hX2⟩ := wrap_nat x
  obtain ⟨Y, hY, hY2⟩ := wrap_nat y
  have c0 := hide (quotients_any X Y hX2 hY2)
  obtain ⟨T, hT⟩ : ∃ T, T = 1074 := ⟨_, rfl⟩
  have c1 := from_any (x / 2048)
  have c2 := from_any (y / 2048)
  have c3 := toInt_any T hT (fromN (x / 2048)) (fromN_lt _)
  rw [to_from T hT _ (by omega)] at c3
  have c4 := add_any (fromN (x / 2048)) (fromN (y / 2048))
  rw [add_whole _ _ (by omega) (by omega)] at c4
  have c5 := from_any (x / 2048 + y / 2048)
  have c6 := sub_any (fromN (x / 2048)) (fromN (y / 2048)) (fromN_lt _)
  rw [sub_whole _ _ (by omega) (by omega)] at c6
  have c7 := from_any (x / 2048 - y / 2048)
  have c8 := from_any (x / 137438953472)
  have c9 := from_any (y / 137438953472)
  have c10 := mul_any (fromN (x / 137438953472)) (fromN (y / 137438953472))
  have hM := mul_whole (x / 137438953472) (y / 137438953472) (by omega) (by omega)
  have hMl := mul_lt64 (fromN (x / 137438953472)) (fromN (y / 137438953472))
  have c11 := from_any (x / 137438953472 * (y / 137438953472))
  have b1 := band_un (mulN (fromN (x / 137438953472)) (fromN (y / 137438953472))) hMl
  have hp1 : -67108864 ≤ x / 137438953472 ∧ x / 137438953472 ≤ 67108863 := by omega
  have hp2 : -67108864 ≤ y / 137438953472 ∧ y / 137438953472 ≤ 67108863 := by omega
  have bnd : -4503599627370496 ≤ x / 137438953472 * (y / 137438953472) ∧ x / 137438953472 * (y / 137438953472) ≤ 4503599627370496 := by
    generalize x / 137438953472 = p at *
    generalize y / 137438953472 = q at *
    have hab : (p * q).natAbs ≤ 67108864 * 67108864 := by
      rw [Int.natAbs_mul]; exact Nat.mul_le_mul (by omega) (by omega)
    omega
  have e1 : -4503599627370496 ≤ x / 2048 ∧ x / 2048 ≤ 4503599627370495 := by omega
  have e2 : -4503599627370496 ≤ y / 2048 ∧ y / 2048 ≤ 4503599627370495 := by omega
  generalize fromN (x / 2048) = FI at *
  generalize fromN (y / 2048) = FJ at *
  generalize fromN (x / 2048 + y / 2048) = FSu at *
  generalize fromN (x / 2048 - y / 2048) = FD at *
  generalize fromN (x / 137438953472) = FP at *
  generalize fromN (y / 137438953472) = FQ at *
  generalize mulN FP FQ = M at *
  replace c1 := hide c1
  replace c2 := hide c2
  replace c3 := hide c3
  replace c4 := hide c4
  replace c5 := hide c5
  replace c6 := hide c6
  replace c7 := hide c7
  replace c8 := hide c8
  replace c9 := hide c9
  replace c10 := hide c10
  clear hX2 hY2
  by_cases hz : x / 137438953472 * (y / 137438953472) = 0
  · have g1 : M % 9223372036854775808 = 0 := by rw [hM, hz, from_zero]; cases (decide (x / 137438953472 < 0) ^^ decide (y / 137438953472 < 0)) <;> decide
    rw [g1] at b1
    have hz2 : ((x / 137438953472 * (y / 137438953472)) == 0) = true := by rw [hz]; rfl
    clear hM g1 c11 hMl bnd hp1 hp2
    go_enter Try.func3, Try.ntmps3
    go_wp2_with fail
    refine (unhide c0 _).mono ?_
    rintro e w1 ⟨rfl, hb1⟩
    replace HB := hide ((unhide HB).trans (hb1.mono (unhide HB).size))
    clear hb1
    go_wp2_with fail
    refine (unhide c1 _).mono ?_
    rintro e w2 ⟨rfl, rfl⟩
    go_wp2_with fail
    refine (unhide c2 _).mono ?_
    rintro e w3 ⟨rfl, rfl⟩
    go_wp2_with fail
    refine (unhide c3 _).mono ?_
    rintro e w4 ⟨rfl, rfl⟩
    go_wp2_with fail
    refine (unhide c4 _).mono ?_
    rintro e w5 ⟨rfl, hb5⟩
    replace HB := hide ((unhide HB).trans (hb5.mono (unhide HB).size))
    clear hb5
    go_wp2_with fail
    refine (unhide c5 _).mono ?_
    rintro e w6 ⟨rfl, rfl⟩
    go_wp2_with fail
    refine (unhide c6 _).mono ?_
    rintro e w7 ⟨rfl, hb7⟩
    replace HB := hide ((unhide HB).trans (hb7.mono (unhide HB).size))
    clear hb7
    go_wp2_with fail
    refine (unhide c7 _).mono ?_
    rintro e w8 ⟨rfl, rfl⟩
    go_wp2_with fail
    refine (unhide c8 _).mono ?_
    rintro e w9 ⟨rfl, rfl⟩
    go_wp2_with fail
    refine (unhide c9 _).mono ?_
    rintro e w10 ⟨rfl, rfl⟩
    go_wp2_with fail
    refine (unhide c10 _).mono ?_
    rintro e w11 ⟨rfl, hb11⟩
    replace HB := hide ((unhide HB).trans (hb11.mono (unhide HB).size))
    clear hb11
    go_wp2_with fail
    refine (unhide cW _).mono ?_
    rintro e w12 ⟨rfl, hb12⟩
    replace HB := hide ((unhide HB).trans (hb12.mono (unhide HB).size))
    clear hb12
    go_wp2
    go_ret
    exact ⟨rfl, unhide HB⟩
  · have hs : (decide (x / 137438953472 < 0) ^^ decide (y / 137438953472 < 0)) = decide (x / 137438953472 * (y / 137438953472) < 0) := by
      generalize x / 137438953472 = p at *
      generalize y / 137438953472 = q at *
      have p0 : p ≠ 0 := fun h => hz (by rw [h, Int.zero_mul])
      have q0 : q ≠ 0 := fun h => hz (by rw [h, Int.mul_zero])
      rcases Int.lt_or_gt_of_ne p0 with hp | hp <;> rcases Int.lt_or_gt_of_ne q0 with hq | hq
      · have := Int.mul_pos_of_neg_of_neg hp hq
        rw [decide_eq_true hp, decide_eq_true hq, decide_eq_false (by omega)]; rfl
      · have := Int.mul_neg_of_neg_of_pos hp hq
        rw [decide_eq_true hp, decide_eq_false (by omega), decide_eq_true this]; rfl
      · have := Int.mul_neg_of_pos_of_neg hp hq
        rw [decide_eq_false (by omega), decide_eq_true hq, decide_eq_true this]; rfl
      · have := Int.mul_pos hp hq
        rw [decide_eq_false (by omega), decide_eq_false (by omega), decide_eq_false (by omega)]; rfl
    obtain ⟨_, a2, _, _⟩ := from_fin T hT (x / 137438953472 * (y / 137438953472)) (by omega)
    rw [hs, ← a2, word_sg_rg (fromN_lt _)] at hM
    rw [← hM] at c11
    replace c11 := hide c11
    have hz2 : ((x / 137438953472 * (y / 137438953472)) == 0) = false := by rw [beq_eq_false_iff_ne]; exact hz
    clear hM hs a2 hMl b1
    go_enter Try.func3, Try.ntmps3
    go_wp2_with fail
    refine (unhide c0 _).mono ?_
    rintro e w1 ⟨rfl, hb1⟩
    replace HB := hide ((unhide HB).trans (hb1.mono (unhide HB).size))
    clear hb1
    go_wp2_with fail
    refine (unhide c1 _).mono ?_
    rintro e w2 ⟨rfl, rfl⟩
    go_wp2_with fail
    refine (unhide c2 _).mono ?_
    rintro e w3 ⟨rfl, rfl⟩
    go_wp2_with fail
    refine (unhide c3 _).mono ?_
    rintro e w4 ⟨rfl, rfl⟩
    go_wp2_with fail
    refine (unhide c4 _).mono ?_
    rintro e w5 ⟨rfl, hb5⟩
    replace HB := hide ((unhide HB).trans (hb5.mono (unhide HB).size))
    clear hb5
    go_wp2_with fail
    refine (unhide c5 _).mono ?_
    rintro e w6 ⟨rfl, rfl⟩
    go_wp2_with fail
    refine (unhide c6 _).mono ?_
    rintro e w7 ⟨rfl, hb7⟩
    replace HB := hide ((unhide HB).trans (hb7.mono (unhide HB).size))
    clear hb7
    go_wp2_with fail
    refine (unhide c7 _).mono ?_
    rintro e w8 ⟨rfl, rfl⟩
    go_wp2_with fail
    refine (unhide c8 _).mono ?_
    rintro e w9 ⟨rfl, rfl⟩
    go_wp2_with fail
    refine (unhide c9 _).mono ?_
    rintro e w10 ⟨rfl, rfl⟩
    go_wp2_with fail
    refine (unhide c10 _).mono ?_
    rintro e w11 ⟨rfl, hb11⟩
    replace HB := hide ((unhide HB).trans (hb11.mono (unhide HB).size))
    clear hb11
    go_wp2_with fail
    refine (unhide c11 _).mono ?_
    rintro e w12 ⟨rfl, rfl⟩
    go_wp2_with fail
    refine (unhide cW _).mono ?_
    rintro e w13 ⟨rfl, hb13⟩
    replace HB := hide ((unhide HB).trans (hb13.mono (unhide HB).size))
    clear hb13
    go_wp2
    go_ret
    exact ⟨rfl, unhide HB⟩
end Go.Proofs.Ytcipmcmdhdaicaa
