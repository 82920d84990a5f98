/-
  RealFloors: the law.
-/
import Derived.Test.YtcipmcmdhdaicaaFloorMath
namespace Go.Proofs.Ytcipmcmdhdaicaa
open Go.RowKit Ieee

set_option maxRecDepth 100000 in
theorem notBelow_yes (a b : Nat) (ha : a < 18446744073709551616) (hb : b < 18446744073709551616) (na : isN a = false) (nb : isN b = false) (h : keyN a ≤ keyN b) (w : World) : Calls Try.prog 14 #[.int .u64 (a : Int), .int .u64 (b : Int)] w fun e w' => e = .returned (.bool true) ∧ w' = w := by
  have c1 := isNaN_any a ha
  have c2 := isNaN_any b hb
  rw [na] at c1
  rw [nb] at c2
  have c3 := key_any a ha
  have c4 := key_any b hb
  generalize keyN a = ka at *
  generalize keyN b = kb at *
  replace c1 := hide c1
  replace c2 := hide c2
  replace c3 := hide c3
  replace c4 := hide c4
  clear ha hb na nb
  go_enter Try.func14, Try.ntmps14
  go_wp2_with fail
  refine (unhide c1 _).mono ?_
  rintro e w1 ⟨rfl, rfl⟩
  go_wp2_with fail
  refine (unhide c2 _).mono ?_
  rintro e w2 ⟨rfl, rfl⟩
  go_wp2_with fail
  refine (unhide c3 _).mono ?_
  rintro e w3 ⟨rfl, rfl⟩
  go_wp2_with fail
  refine (unhide c4 _).mono ?_
  rintro e w4 ⟨rfl, rfl⟩
  go_wp2
  go_ret
  exact ⟨rfl, rfl⟩

set_option maxRecDepth 100000 in
set_option maxHeartbeats 1600000 in
theorem floorsLaw (a : Nat) (w : World) (ha : a < 18446744073709551616) :
    Calls Try.prog 4 #[.int .u64 (a : Int)] w fun e w' => e = .returned (.bool true) ∧ Below w.heap.size w w' := by
  have cW := hide awake_any
  have HB := hide (Below.refl w.heap.size w)
  obtain ⟨T, hT⟩ : ∃ T, T = 1074 := ⟨_, rfl⟩
  have b1 := band_un a ha
  have c1 := floor_any a ha
  have c2 := floor_any (floorN a) (floor_lt64 a)
  have hrg : a % 9223372036854775808 = rg a := rfl
  by_cases h1 : 9218868437227405312 ≤ rg a
  · have e1 : floorN a = canonN a ∧ floorN (floorN a) = floorN a := by
      cases n : isN a
      · have := notN_le n
        have e := floor_inf' a ha (by omega)
        rw [canon_of_notN n, e]; exact ⟨rfl, e⟩
      · have e := floor_N a n
        rw [canon_of_N n, e]; exact ⟨rfl, floor_N _ one_N⟩
    have c3 := canon_any a ha
    rw [← e1.1] at c3
    rw [e1.2] at c2
    rw [hrg] at b1
    have g1 : (9218868437227405312 : Int) ≤ (rg a : Int) := by omega
    generalize floorN a = f at *
    generalize rg a = G at *
    replace c1 := hide c1
    replace c2 := hide c2
    replace c3 := hide c3
    clear e1 ha hrg h1
    go_enter Try.func4, Try.ntmps4
    go_wp2_with fail
    refine (unhide c1 _).mono ?_
    rintro e w1 ⟨rfl, hb1⟩
    replace HB := hide ((unhide HB).trans (hb1.mono (unhide HB).size))
    clear hb1
    go_wp2_with fail
    refine (unhide c2 _).mono ?_
    rintro e w2 ⟨rfl, hb2⟩
    replace HB := hide ((unhide HB).trans (hb2.mono (unhide HB).size))
    clear hb2
    go_wp2_with fail
    refine (unhide c3 _).mono ?_
    rintro e w3 ⟨rfl, rfl⟩
    go_wp2_with fail
    refine (unhide cW _).mono ?_
    rintro e w4 ⟨rfl, hb4⟩
    replace HB := hide ((unhide HB).trans (hb4.mono (unhide HB).size))
    clear hb4
    go_wp2
    go_ret
    exact ⟨rfl, unhide HB⟩
  have g1 : decide ((9218868437227405312 : Int) ≤ (rg a : Int)) = false := by rw [decide_eq_false_iff_not]; omega
  by_cases h2 : 4841369599423283200 ≤ rg a
  · have e := floor_big T a hT ha h2 (by omega)
    rw [e] at c1 c2
    rw [e] at c2
    rw [hrg] at b1
    have g2 : (4841369599423283200 : Int) ≤ (rg a : Int) := by omega
    generalize rg a = G at *
    replace c1 := hide c1
    replace c2 := hide c2
    clear e ha hrg h1 h2
    go_enter Try.func4, Try.ntmps4
    go_wp2_with fail
    refine (unhide c1 _).mono ?_
    rintro e w1 ⟨rfl, hb1⟩
    replace HB := hide ((unhide HB).trans (hb1.mono (unhide HB).size))
    clear hb1
    go_wp2_with fail
    refine (unhide c2 _).mono ?_
    rintro e w2 ⟨rfl, hb2⟩
    replace HB := hide ((unhide HB).trans (hb2.mono (unhide HB).size))
    clear hb2
    go_wp2_with fail
    refine (unhide cW _).mono ?_
    rintro e w3 ⟨rfl, hb3⟩
    replace HB := hide ((unhide HB).trans (hb3.mono (unhide HB).size))
    clear hb3
    go_wp2
    go_ret
    exact ⟨rfl, unhide HB⟩
  have g2 : decide ((4841369599423283200 : Int) ≤ (rg a : Int)) = false := by rw [decide_eq_false_iff_not]; omega
  have nA : isN a = false := by rw [isN_eq, decide_eq_false (by omega)]
  obtain ⟨flt, fag, fN, flow, fhigh, n, m, t1, t2, fn, n1, n2, m1, m2⟩ := flo_all T a hT ha (by omega)
  rw [fag] at c2
  have c3 := toInt_any T hT (floorN a) flt
  rw [t1] at c3
  have c4 := from_any n
  have b2 := band_un (fromN n) (fromN_lt n)
  have b3 := band_un (floorN a) flt
  rw [fn] at b2
  have c5 := notBelow_yes (floorN a) a flt ha fN nA flow
  have c6 := key_any a ha
  have c7 := add_any (floorN a) 4607182418800017408
  have c8 := key_any (addN (floorN a) 4607182418800017408) (add_lt64 _ _)
  have g3 : decide (keyN (addN (floorN a) 4607182418800017408) ≤ keyN a) = false := by rw [decide_eq_false_iff_not]; omega
  have c9 := toInt_any T hT a ha
  rw [t2] at c9
  have b4 := band_mi a ha
  have b5 : bits .and .u64 ((floorN a : Nat) : Int) 9223372036854775807 = ((floorN a % 9223372036854775808 : Nat) : Int) := b3
  rw [hrg] at b1
  clear fag fN flow fhigh nA t1 t2 fn flt
  generalize addN (floorN a) 4607182418800017408 = g at *
  generalize keyN a = ka at *
  generalize keyN g = kg at *
  generalize floorN a = f at *
  generalize f % 9223372036854775808 = fg at *
  generalize fromN n = FN at *
  generalize rg a = G at *
  replace c1 := hide c1
  replace c2 := hide c2
  replace c3 := hide c3
  replace c4 := hide c4
  replace c5 := hide c5
  replace c6 := hide c6
  replace c7 := hide c7
  replace c8 := hide c8
  replace c9 := hide c9
  clear b5
  by_cases hs : a < 9223372036854775808
  · rw [if_pos hs] at b4
    obtain rfl := m1 hs
    clear m1 m2 hs ha hrg h1 h2
    go_enter Try.func4, Try.ntmps4
    go_wp2_with fail
    refine (unhide c1 _).mono ?_
    rintro e w1 ⟨rfl, hb1⟩
    replace HB := hide ((unhide HB).trans (hb1.mono (unhide HB).size))
    clear hb1
    go_wp2_with fail
    refine (unhide c2 _).mono ?_
    rintro e w2 ⟨rfl, hb2⟩
    replace HB := hide ((unhide HB).trans (hb2.mono (unhide HB).size))
    clear hb2
    go_wp2_with fail
    refine (unhide c3 _).mono ?_
    rintro e w3 ⟨rfl, rfl⟩
    go_wp2_with fail
    refine (unhide c4 _).mono ?_
    rintro e w4 ⟨rfl, rfl⟩
    go_wp2_with fail
    refine (unhide c5 _).mono ?_
    rintro e w5 ⟨rfl, rfl⟩
    go_wp2_with fail
    refine (unhide c6 _).mono ?_
    rintro e w6 ⟨rfl, rfl⟩
    go_wp2_with fail
    refine (unhide c7 _).mono ?_
    rintro e w7 ⟨rfl, hb7⟩
    replace HB := hide ((unhide HB).trans (hb7.mono (unhide HB).size))
    clear hb7
    go_wp2_with fail
    refine (unhide c8 _).mono ?_
    rintro e w8 ⟨rfl, rfl⟩
    go_wp2_with fail
    refine (unhide c9 _).mono ?_
    rintro e w9 ⟨rfl, rfl⟩
    go_wp2
    go_ret
    exact ⟨rfl, unhide HB⟩
  · rw [if_neg hs] at b4
    rcases m2 hs with ⟨hfa, rfl⟩ | ⟨hfa, rfl⟩
    · subst hfa
      obtain rfl : fg = G := by have := b1.symm.trans b3; omega
      clear m1 m2 hs ha hrg h1 h2 b3
      go_enter Try.func4, Try.ntmps4
      go_wp2_with fail
      refine (unhide c1 _).mono ?_
      rintro e w1 ⟨rfl, hb1⟩
      replace HB := hide ((unhide HB).trans (hb1.mono (unhide HB).size))
      clear hb1
      go_wp2_with fail
      refine (unhide c2 _).mono ?_
      rintro e w2 ⟨rfl, hb2⟩
      replace HB := hide ((unhide HB).trans (hb2.mono (unhide HB).size))
      clear hb2
      go_wp2_with fail
      refine (unhide c3 _).mono ?_
      rintro e w3 ⟨rfl, rfl⟩
      go_wp2_with fail
      refine (unhide c4 _).mono ?_
      rintro e w4 ⟨rfl, rfl⟩
      go_wp2_with fail
      refine (unhide c5 _).mono ?_
      rintro e w5 ⟨rfl, rfl⟩
      go_wp2_with fail
      refine (unhide c6 _).mono ?_
      rintro e w6 ⟨rfl, rfl⟩
      go_wp2_with fail
      refine (unhide c7 _).mono ?_
      rintro e w7 ⟨rfl, hb7⟩
      replace HB := hide ((unhide HB).trans (hb7.mono (unhide HB).size))
      clear hb7
      go_wp2_with fail
      refine (unhide c8 _).mono ?_
      rintro e w8 ⟨rfl, rfl⟩
      go_wp2_with fail
      refine (unhide c9 _).mono ?_
      rintro e w9 ⟨rfl, rfl⟩
      go_wp2
      go_ret
      exact ⟨rfl, unhide HB⟩
    · have G4 : Hid (((f : Int) == (a : Int)) = false) := by unfold Hid; rw [beq_eq_false_iff_ne]; omega
      have G5 : Hid (((f : Int) != (a : Int)) = true) := by unfold Hid; rw [bne_iff_ne]; omega
      clear m1 m2 hs ha hrg h1 h2 hfa
      have b4' : bits .and .u64 (a : Int) 9223372036854775808 = 9223372036854775808 := b4
      replace b4' := hide b4'
      have N12 := hide (And.intro n1 n2)
      clear b4 n1 n2
      go_enter Try.func4, Try.ntmps4
      go_wp2_with fail
      refine (unhide c1 _).mono ?_
      rintro e w1 ⟨rfl, hb1⟩
      replace HB := hide ((unhide HB).trans (hb1.mono (unhide HB).size))
      clear hb1
      go_wp2_with fail
      refine (unhide c2 _).mono ?_
      rintro e w2 ⟨rfl, hb2⟩
      replace HB := hide ((unhide HB).trans (hb2.mono (unhide HB).size))
      clear hb2
      go_wp2_with fail
      refine (unhide c3 _).mono ?_
      rintro e w3 ⟨rfl, rfl⟩
      go_wp2_with fail
      refine (unhide c4 _).mono ?_
      rintro e w4 ⟨rfl, rfl⟩
      go_wp2_with fail
      refine (unhide c5 _).mono ?_
      rintro e w5 ⟨rfl, rfl⟩
      go_wp2_with fail
      refine (unhide c6 _).mono ?_
      rintro e w6 ⟨rfl, rfl⟩
      go_wp2_with fail
      refine (unhide c7 _).mono ?_
      rintro e w7 ⟨rfl, hb7⟩
      replace HB := hide ((unhide HB).trans (hb7.mono (unhide HB).size))
      clear hb7
      go_wp2_with fail
      refine (unhide c8 _).mono ?_
      rintro e w8 ⟨rfl, rfl⟩
      go_wp2_with fail
      refine (unhide c9 _).mono ?_
      rintro e w9 ⟨rfl, rfl⟩
      have g4 := unhide G4
      obtain ⟨n1, n2⟩ := unhide N12
      have b4 := unhide b4'
      clear b4' N12
      have g5 := unhide G5
      clear G4 G5
      go_wp2
      go_ret
      exact ⟨rfl, unhide HB⟩
end Go.Proofs.Ytcipmcmdhdaicaa
