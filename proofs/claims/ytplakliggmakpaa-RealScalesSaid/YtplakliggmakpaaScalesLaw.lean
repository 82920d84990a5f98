/-
  RealScales: the law.
-/
import Derived.Test.YtplakliggmakpaaScale
import Derived.Test.YtplakliggmakpaaOrderLaw
namespace Go.Proofs.Ytplakliggmakpaa
open Go.RowKit Ieee

theorem tmod_1001 (n : Int) : -1000 ≤ n.tmod 1001 ∧ n.tmod 1001 ≤ 1000 := by
  rcases Int.le_total 0 n with h | h
  · rw [Int.tmod_eq_emod_of_nonneg h]; omega
  · obtain ⟨m, rfl⟩ : ∃ m, n = -m := ⟨-n, by omega⟩
    rw [Int.neg_tmod, Int.tmod_eq_emod_of_nonneg (by omega)]; omega
theorem and_sf (a : Nat) (h : a < 18446744073709551616) : a &&& 9227875636482146303 = (if a < 9223372036854775808 then 0 else 9223372036854775808) ||| a % 4503599627370496 := by
  have e : (9227875636482146303 : Nat) = 9223372036854775808 ||| 4503599627370495 := by decide
  rw [e, Nat.and_or_distrib_left, and_mi a h, and_lo]
theorem or_word (a t f : Nat) (ht : t < 2048) (hf : f < 4503599627370496) : (t * 4503599627370496) ||| ((if a < 9223372036854775808 then 0 else 9223372036854775808) ||| f) = (if a < 9223372036854775808 then 0 else 9223372036854775808) + (t * 4503599627370496 + f) := by
  have e1 : t * 4503599627370496 ||| f = t * 4503599627370496 + f := by
    have := Nat.two_pow_add_eq_or_of_lt (i := 52) hf t
    rw [Nat.mul_comm t]; exact this.symm
  have e2 : t * 4503599627370496 + f < 2 ^ 63 := by omega
  rw [Nat.or_comm (if a < 9223372036854775808 then 0 else 9223372036854775808), ← Nat.or_assoc, e1, Nat.or_comm]
  split
  · simp
  · have := Nat.two_pow_add_eq_or_of_lt (i := 63) e2 1
    rw [Nat.mul_one] at this
    exact this.symm
theorem band_sf (a : Nat) (h : a < 18446744073709551616) : bits .and .u64 (a : Int) 9227875636482146303 = (((if a < 9223372036854775808 then 0 else 9223372036854775808) ||| a % 4503599627370496 : Nat) : Int) := by
  have := and_sf a h
  go_bits2
theorem bor_w (x y : Nat) (hx : x < 18446744073709551616) (hy : y < 18446744073709551616) : bits .or .u64 (x : Int) (y : Int) = ((x ||| y : Nat) : Int) := by
  go_bits2
theorem band_e (a : Nat) (h : a < 18446744073709551616) : bits .and .u64 ((a : Int) / 4503599627370496) 2047 = ((a / 4503599627370496 % 2048 : Nat) : Int) := by
  have e : (a : Int) / 4503599627370496 = ((a / 4503599627370496 : Nat) : Int) := rfl
  rw [e]
  go_bits2

set_option maxRecDepth 100000 in
set_option maxHeartbeats 1600000 in
theorem scalesLaw (a : Nat) (n : Int) (w : World) (ha : a < 18446744073709551616) (_ : -9223372036854775808 ≤ n) (_ : n ≤ 9223372036854775807) :
    Calls Try.prog 8 #[.int .u64 (a : Int), .int .i64 n] w fun e w' => e = .returned (.bool true) ∧ Below w.heap.size w w' := by
  have cW := hide awake_any
  have HB := hide (Below.refl w.heap.size w)
  obtain ⟨hk1, hk2⟩ := tmod_1001 n
  generalize hk : n.tmod 1001 = k at *
  obtain ⟨u, hu⟩ : ∃ u : Nat, (u : Int) = 1023 + k := ⟨(1023 + k).toNat, by omega⟩
  obtain ⟨v, hv⟩ : ∃ v : Nat, (v : Int) = 1023 - k := ⟨(1023 - k).toNat, by omega⟩
  obtain ⟨PU, hPU⟩ : ∃ P, P = u * 4503599627370496 := ⟨_, rfl⟩
  obtain ⟨PV, hPV⟩ : ∃ P, P = v * 4503599627370496 := ⟨_, rfl⟩
  have hU : (1023 + k) * 4503599627370496 = ((PU : Nat) : Int) := by rw [← hu, hPU]; omega
  have hV : (1023 - k) * 4503599627370496 = ((PV : Nat) : Int) := by rw [← hv, hPV]; omega
  have c1 : ∀ w, Calls Try.prog 12 #[.int .u64 (a : Int), .int .u64 ((1023 + k) * 4503599627370496)] w fun e w' => e = .returned (.int .u64 (divN a PU : Nat)) ∧ Below w.heap.size w w' := by rw [hU]; exact div_any a _
  have c2 : ∀ w, Calls Try.prog 11 #[.int .u64 (a : Int), .int .u64 ((1023 - k) * 4503599627370496)] w fun e w' => e = .returned (.int .u64 (mulN a PV : Nat)) ∧ Below w.heap.size w w' := by rw [hV]; exact mul_any a _
  have dm := div_mul_pw a u v (by omega) (by omega) (by omega)
  rw [← hPU, ← hPV] at dm
  rw [dm] at c1
  have c3 := add_any a a
  have c4 := mul_any a 4611686018427387904
  rw [← add_self] at c4
  have c5 : ∀ w, Calls Try.prog 11 #[.int .u64 (a : Int), .int .u64 ((1023 + k) * 4503599627370496)] w fun e w' => e = .returned (.int .u64 (mulN a PU : Nat)) ∧ Below w.heap.size w w' := by rw [hU]; exact mul_any a _
  have b1 := band_e a ha
  have b2 := band_sf a ha
  have hE : a / 4503599627370496 % 2048 * 4503599627370496 + a % 4503599627370496 = rg a := by unfold rg; omega
  have hE2 : a / 4503599627370496 % 2048 < 2048 := Nat.mod_lt _ (by decide)
  have hF : a % 4503599627370496 < 4503599627370496 := Nat.mod_lt _ (by decide)
  generalize a / 4503599627370496 % 2048 = e at *
  generalize hf : a % 4503599627370496 = f at *
  have hs : ∀ r, r < 9223372036854775808 → double.word (sg a) r = (if a < 9223372036854775808 then 0 else 9223372036854775808) + r := by
    intro r hr
    unfold Format.word
    rcases Nat.lt_or_ge a 9223372036854775808 with h | h
    · rw [sg_false h, if_pos h]; simp
    · rw [sg_true ha h]
      show 9223372036854775808 + r = _
      rw [if_neg (Nat.not_lt.2 h)]
  by_cases hgood : 1 ≤ e ∧ e ≤ 2046 ∧ 1 ≤ (e : Int) + k ∧ (e : Int) + k ≤ 2046
  · obtain ⟨t, ht⟩ : ∃ t : Nat, (t : Int) = e + k := ⟨(e + k).toNat, by omega⟩
    have r1 := scale_up a e u t f hF hE.symm (by omega) (by omega) (by omega) (by omega) (by omega) (by omega) (by omega)
    rw [← hPU] at r1
    have hb := or_word a t f (by omega) hF
    rw [← hs _ (by omega), ← r1] at hb
    have r2 := scale_up (mulN a PU) t v e f hF (by rw [r1, rg_word _ (by omega)]) (by omega) (by omega) (by omega) (by omega) (by omega) (by omega) (by omega)
    rw [← hPV, r1, sg_word _ (by omega), ← r1, hE, word_sg_rg ha] at r2
    have hT : ((e : Int) + k) * 4503599627370496 = ((t * 4503599627370496 : Nat) : Int) := by rw [← ht]; omega
    have b3 := bor_w (t * 4503599627370496) ((if a < 9223372036854775808 then 0 else 9223372036854775808) ||| f) (by omega) (by
      have : f < 2 ^ 64 := by omega
      refine Nat.or_lt_two_pow (n := 64) ?_ this
      split <;> omega)
    rw [hb] at b3
    rw [← hT] at b3
    have c6 : ∀ w, Calls Try.prog 11 #[.int .u64 (mulN a PU : Nat), .int .u64 ((1023 - k) * 4503599627370496)] w fun e w' => e = .returned (.int .u64 (a : Nat)) ∧ Below w.heap.size w w' := by
      have := mul_any (mulN a PU) PV
      rw [r2] at this
      rw [hV]; exact this
    generalize ((if a < 9223372036854775808 then 0 else 9223372036854775808) ||| f : Nat) = Z at *
    generalize mulN a PU = M at *
    generalize mulN a PV = M2 at *
    generalize addN a a = A2 at *
    have g1 : ((e : Int) == 0) = false := by rw [beq_eq_false_iff_ne]; omega
    have g2 : ((e : Int) == 2047) = false := by rw [beq_eq_false_iff_ne]; omega
    have g3 : decide ((e : Int) + k < 1) = false := by rw [decide_eq_false_iff_not]; omega
    have g4 : decide ((2046 : Int) < (e : Int) + k) = false := by rw [decide_eq_false_iff_not]; omega
    replace c1 := hide c1
    replace c2 := hide c2
    replace c3 := hide c3
    replace c4 := hide c4
    replace c5 := hide c5
    replace c6 := hide c6
    clear hs r1 r2 hb hT hE hf hF hU hV hu hv hPU hPV dm
    go_enter Try.func8, Try.ntmps8
    go_wp2_with fail
    refine (unhide c1 _).mono ?_
    rintro e w1 ⟨rfl, hb1⟩
    replace HB := hide ((unhide HB).trans (hb1.mono (unhide HB).size))
    clear hb1
    go_wp2_with fail
    refine (unhide c2 _).mono ?_
    rintro e w2 ⟨rfl, hb2⟩
    replace HB := hide ((unhide HB).trans (hb2.mono (unhide HB).size))
    clear hb2
    go_wp2_with fail
    refine (unhide c3 _).mono ?_
    rintro e w3 ⟨rfl, hb3⟩
    replace HB := hide ((unhide HB).trans (hb3.mono (unhide HB).size))
    clear hb3
    go_wp2_with fail
    refine (unhide c4 _).mono ?_
    rintro e w4 ⟨rfl, hb4⟩
    replace HB := hide ((unhide HB).trans (hb4.mono (unhide HB).size))
    clear hb4
    go_wp2_with fail
    refine (unhide cW _).mono ?_
    rintro e w5 ⟨rfl, hb5⟩
    replace HB := hide ((unhide HB).trans (hb5.mono (unhide HB).size))
    clear hb5
    go_wp2_with fail
    refine (unhide c5 _).mono ?_
    rintro e w6 ⟨rfl, hb6⟩
    replace HB := hide ((unhide HB).trans (hb6.mono (unhide HB).size))
    clear hb6
    go_wp2_with fail
    refine (unhide c6 _).mono ?_
    rintro e w7 ⟨rfl, hb7⟩
    replace HB := hide ((unhide HB).trans (hb7.mono (unhide HB).size))
    clear hb7
    go_wp2
    go_ret
    exact ⟨rfl, unhide HB⟩
  · generalize mulN a PU = M at *
    generalize mulN a PV = M2 at *
    generalize addN a a = A2 at *
    replace c1 := hide c1
    replace c2 := hide c2
    replace c3 := hide c3
    replace c4 := hide c4
    clear hs hE hf hF hU hV hu hv c5 b2 hPU hPV dm
    by_cases e0 : e = 0
    · subst e0
      clear hgood
      go_enter Try.func8, Try.ntmps8
      go_wp2_with fail
      refine (unhide c1 _).mono ?_
      rintro e w1 ⟨rfl, hb1⟩
      replace HB := hide ((unhide HB).trans (hb1.mono (unhide HB).size))
      clear hb1
      go_wp2_with fail
      refine (unhide c2 _).mono ?_
      rintro e w2 ⟨rfl, hb2⟩
      replace HB := hide ((unhide HB).trans (hb2.mono (unhide HB).size))
      clear hb2
      go_wp2_with fail
      refine (unhide c3 _).mono ?_
      rintro e w3 ⟨rfl, hb3⟩
      replace HB := hide ((unhide HB).trans (hb3.mono (unhide HB).size))
      clear hb3
      go_wp2_with fail
      refine (unhide c4 _).mono ?_
      rintro e w4 ⟨rfl, hb4⟩
      replace HB := hide ((unhide HB).trans (hb4.mono (unhide HB).size))
      clear hb4
      go_wp2_with fail
      refine (unhide cW _).mono ?_
      rintro e w5 ⟨rfl, hb5⟩
      replace HB := hide ((unhide HB).trans (hb5.mono (unhide HB).size))
      clear hb5
      go_wp2
      go_ret
      exact ⟨rfl, unhide HB⟩
    have g1 : ((e : Int) == 0) = false := by rw [beq_eq_false_iff_ne]; omega
    by_cases e1 : e = 2047
    · subst e1
      clear hgood e0
      go_enter Try.func8, Try.ntmps8
      go_wp2_with fail
      refine (unhide c1 _).mono ?_
      rintro e w1 ⟨rfl, hb1⟩
      replace HB := hide ((unhide HB).trans (hb1.mono (unhide HB).size))
      clear hb1
      go_wp2_with fail
      refine (unhide c2 _).mono ?_
      rintro e w2 ⟨rfl, hb2⟩
      replace HB := hide ((unhide HB).trans (hb2.mono (unhide HB).size))
      clear hb2
      go_wp2_with fail
      refine (unhide c3 _).mono ?_
      rintro e w3 ⟨rfl, hb3⟩
      replace HB := hide ((unhide HB).trans (hb3.mono (unhide HB).size))
      clear hb3
      go_wp2_with fail
      refine (unhide c4 _).mono ?_
      rintro e w4 ⟨rfl, hb4⟩
      replace HB := hide ((unhide HB).trans (hb4.mono (unhide HB).size))
      clear hb4
      go_wp2_with fail
      refine (unhide cW _).mono ?_
      rintro e w5 ⟨rfl, hb5⟩
      replace HB := hide ((unhide HB).trans (hb5.mono (unhide HB).size))
      clear hb5
      go_wp2
      go_ret
      exact ⟨rfl, unhide HB⟩
    have g2 : ((e : Int) == 2047) = false := by rw [beq_eq_false_iff_ne]; omega
    by_cases e2 : (e : Int) + k < 1
    · clear hgood e0 e1
      go_enter Try.func8, Try.ntmps8
      go_wp2_with fail
      refine (unhide c1 _).mono ?_
      rintro e w1 ⟨rfl, hb1⟩
      replace HB := hide ((unhide HB).trans (hb1.mono (unhide HB).size))
      clear hb1
      go_wp2_with fail
      refine (unhide c2 _).mono ?_
      rintro e w2 ⟨rfl, hb2⟩
      replace HB := hide ((unhide HB).trans (hb2.mono (unhide HB).size))
      clear hb2
      go_wp2_with fail
      refine (unhide c3 _).mono ?_
      rintro e w3 ⟨rfl, hb3⟩
      replace HB := hide ((unhide HB).trans (hb3.mono (unhide HB).size))
      clear hb3
      go_wp2_with fail
      refine (unhide c4 _).mono ?_
      rintro e w4 ⟨rfl, hb4⟩
      replace HB := hide ((unhide HB).trans (hb4.mono (unhide HB).size))
      clear hb4
      go_wp2_with fail
      refine (unhide cW _).mono ?_
      rintro e w5 ⟨rfl, hb5⟩
      replace HB := hide ((unhide HB).trans (hb5.mono (unhide HB).size))
      clear hb5
      go_wp2
      go_ret
      exact ⟨rfl, unhide HB⟩
    have g3 : decide ((e : Int) + k < 1) = false := by rw [decide_eq_false_iff_not]; omega
    have g4 : (2046 : Int) < (e : Int) + k := by omega
    clear hgood e0 e1
    go_enter Try.func8, Try.ntmps8
    go_wp2_with fail
    refine (unhide c1 _).mono ?_
    rintro e w1 ⟨rfl, hb1⟩
    replace HB := hide ((unhide HB).trans (hb1.mono (unhide HB).size))
    clear hb1
    go_wp2_with fail
    refine (unhide c2 _).mono ?_
    rintro e w2 ⟨rfl, hb2⟩
    replace HB := hide ((unhide HB).trans (hb2.mono (unhide HB).size))
    clear hb2
    go_wp2_with fail
    refine (unhide c3 _).mono ?_
    rintro e w3 ⟨rfl, hb3⟩
    replace HB := hide ((unhide HB).trans (hb3.mono (unhide HB).size))
    clear hb3
    go_wp2_with fail
    refine (unhide c4 _).mono ?_
    rintro e w4 ⟨rfl, hb4⟩
    replace HB := hide ((unhide HB).trans (hb4.mono (unhide HB).size))
    clear hb4
    go_wp2_with fail
    refine (unhide cW _).mono ?_
    rintro e w5 ⟨rfl, hb5⟩
    replace HB := hide ((unhide HB).trans (hb5.mono (unhide HB).size))
    clear hb5
    go_wp2
    go_ret
    exact ⟨rfl, unhide HB⟩
end Go.Proofs.Ytplakliggmakpaa
