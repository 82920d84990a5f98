/-
  The document's SameSum; RealExact.
-/
import Derived.Test.YtnikbaibchgmnaaTwo2
import Derived.Test.YtnikbaibchgmnaaHoldsLaw
namespace Go.Proofs.Ytnikbaibchgmnaa
open Go.RowKit Ieee

theorem add_val (a b : Nat) (fa : rg a < 9218868437227405312) (fb : rg b < 9218868437227405312) (ok : Ok (S a + S b)) : rg (addN a b) < 9218868437227405312 ∧ S (addN a b) = rn (S a + S b) := by
  unfold Ok at ok
  rw [add_fin a b fa fb]
  by_cases h : S a + S b = 0
  · rw [if_pos h, rg_word _ (by omega), S_word _ (by omega), up_zero, h]
    exact ⟨by omega, by rw [show rn 0 = 0 from by decide]; split <;> rfl⟩
  · rw [if_neg h, rg_word _ (by omega), S_word _ (by omega)]
    refine ⟨ok, ?_⟩
    unfold rn
    by_cases h1 : S a + S b < 0
    · rw [decide_eq_true h1, if_pos rfl, if_pos h1]
    · rw [decide_eq_false h1, if_neg (by simp), if_neg h1]
theorem sub_val (a b : Nat) (lb : b < 18446744073709551616) (fa : rg a < 9218868437227405312) (fb : rg b < 9218868437227405312) (ok : Ok (S a - S b)) : rg (subN a b) < 9218868437227405312 ∧ S (subN a b) = rn (S a - S b) := by
  have nb : isN b = false := by rw [isN_eq, decide_eq_false (by omega)]
  unfold subN
  rw [neg_of_notN lb nb]
  have h := add_val a (flip b) fa (by rw [flip_rg lb]; exact fb)
  rw [S_flip lb, ← Int.sub_eq_add_neg] at h
  exact h ok
theorem F_S (a : Nat) : F (S a) := ⟨rg a, (S_natAbs a).symm⟩
/-- The six calls, as words. -/
theorem exact_words (a b : Nat) (la : a < 18446744073709551616) (_ : b < 18446744073709551616) (ha : rg a < 9209861237972664320) (hb : rg b < 9209861237972664320) :
    rg (addN a b) < 9218868437227405312 ∧
    rg (addN (subN a (subN (addN a b) (subN (addN a b) a))) (subN b (subN (addN a b) a))) < 9218868437227405312 ∧
    S (addN a b) + S (addN (subN a (subN (addN a b) (subN (addN a b) a))) (subN b (subN (addN a b) a))) = S a + S b := by
  obtain ⟨E, hE⟩ : ∃ E, E = 2044 := ⟨_, rfl⟩
  have u1 : up 9218868437227405312 = 4 * (4503599627370496 * 2 ^ E) := by
    rw [up_eq, show mg 9218868437227405312 = 4503599627370496 from by decide, show kx 9218868437227405312 = E + 2 from by rw [hE]; decide, Nat.pow_add]
    generalize (2 : Nat) ^ E = q
    omega
  have u2 : up 9209861237972664320 = 4503599627370496 * 2 ^ E := by
    rw [up_eq, show mg 9209861237972664320 = 4503599627370496 from by decide, show kx 9209861237972664320 = E from by rw [hE]; decide]
  have r3 : ∃ r, up r = 3 * (4503599627370496 * 2 ^ E) := by
    obtain ⟨r, hr⟩ := rep' (E + 52) 3 (by decide)
    exact ⟨r, by rw [hr, Nat.pow_add, Nat.mul_comm (2 ^ E)]⟩
  have r2 : ∃ r, up r = 2 * (4503599627370496 * 2 ^ E) := by
    obtain ⟨r, hr⟩ := rep' (E + 52) 2 (by decide)
    exact ⟨r, by rw [hr, Nat.pow_add, Nat.mul_comm (2 ^ E)]⟩
  have va : (S a).natAbs < 4503599627370496 * 2 ^ E := by rw [S_natAbs, ← u2]; exact up_lt ha
  have vb : (S b).natAbs < 4503599627370496 * 2 ^ E := by rw [S_natAbs, ← u2]; exact up_lt hb
  obtain ⟨o1, o2, o3, o4, o5, o6, h⟩ := two_sum (F_S a) (F_S b) u1 r3 r2 va vb
  have fa : rg a < 9218868437227405312 := by omega
  have fb : rg b < 9218868437227405312 := by omega
  obtain ⟨f1, e1⟩ := add_val a b fa fb o1
  have l1 := add_lt64 a b
  generalize addN a b = s at *
  rw [← e1] at o2 o3 o4 o5 o6 h
  obtain ⟨f2, e2⟩ := sub_val s a la f1 fa o2
  have l2 : subN s a < 18446744073709551616 := add_lt64 _ _
  generalize subN s a = t at *
  rw [← e2] at o3 o4 o5 o6 h
  obtain ⟨f3, e3⟩ := sub_val s t l2 f1 f2 o3
  have l3 : subN s t < 18446744073709551616 := add_lt64 _ _
  generalize subN s t = p at *
  rw [← e3] at o4 o6 h
  obtain ⟨f4, e4⟩ := sub_val a p l3 fa f3 o4
  generalize subN a p = x at *
  obtain ⟨f5, e5⟩ := sub_val b t l2 fb f2 o5
  generalize subN b t = y at *
  rw [← e4, ← e5] at o6 h
  obtain ⟨f6, e6⟩ := add_val x y f4 f5 o6
  rw [← e6] at h
  exact ⟨f1, f6, h⟩

theorem NB' {N n K L : Nat} (h : N < 4294967296 ^ K) (hn : 32 * K + n ≤ 32 * L) : N * 2 ^ n < 4294967296 ^ L := by
  have h1 : N * 2 ^ n < 4294967296 ^ K * 2 ^ n := Nat.mul_lt_mul_of_pos_right h (Nat.two_pow_pos n)
  have h2 : (4294967296 : Nat) ^ K * 2 ^ n = 2 ^ (32 * K + n) := by rw [Nat.pow_add, Nat.pow_mul]
  rw [h2] at h1
  exact pow_lt_B h1 hn
theorem NB {N n : Nat} (h : N < 4294967296 ^ 67) (hn : n ≤ 10000) : N * 2 ^ n < 4294967296 ^ 1000 := NB' (K := 67) (L := 1000) h (by omega)
set_option maxRecDepth 100000 in
set_option maxHeartbeats 1600000 in
theorem same_any (a b c d : Nat) (la : a < 18446744073709551616) (lb : b < 18446744073709551616) (lc : c < 18446744073709551616) (ld : d < 18446744073709551616) (fa : rg a < 9218868437227405312) (fb : rg b < 9218868437227405312) (fc : rg c < 9218868437227405312) (fd : rg d < 9218868437227405312)
    (h : S c + S d = S a + S b) (w : World) : Calls Try.prog 24 #[.int .u64 (a : Int), .int .u64 (b : Int), .int .u64 (c : Int), .int .u64 (d : Int)] w fun e w' => e = .returned (.bool true) ∧ Below w.heap.size w w' := by
  have c1 := hide (sum_any a b la lb fa fb)
  have c2 := hide (sum_any c d lc ld fc fd)
  have k1 := kx_lt fa
  have k2 := kx_lt fc
  have HK := hide (And.intro k1 k2)
  have HH := hide h
  have be := bool_eql
  have HB := hide (Below.refl w.heap.size w)
  clear la lb lc ld fa fb fc fd k1 k2 h
  go_enter Try.func24, Try.ntmps24
  go_wp2_with fail
  refine (unhide c1 _).mono ?_
  rintro e w1 ⟨v1, N1, s1, E1, rfl, hL1, hS1, hB1⟩
  have HL1 := hide hL1
  have HS1 := hide hS1
  replace HB := hide ((unhide HB).trans (hB1.mono (unhide HB).size))
  clear hL1 hS1 hB1
  go_wp2_with fail
  refine (unhide c2 _).mono ?_
  rintro e w2 ⟨v2, N2, s2, E2, rfl, hL2, hS2, hB2⟩
  have HL2 := hide hL2
  have HS2 := hide hS2
  replace HL1 := hide ((unhide HL1).below hB2)
  replace HB := hide ((unhide HB).trans (hB2.mono (unhide HB).size))
  clear hL2 hS2 hB2
  obtain ⟨n1, hn1⟩ : ∃ n, min (kx (rg a)) (kx (rg b)) = n := ⟨_, rfl⟩
  obtain ⟨n2, hn2⟩ : ∃ n, min (kx (rg c)) (kx (rg d)) = n := ⟨_, rfl⟩
  have p1 := (unhide HS1).place
  have p2 := (unhide HS2).place
  have z1 := (unhide HS1).size
  have z2 := (unhide HS2).size
  have g1 := (unhide HS1).sign
  have g2 := (unhide HS2).sign
  have b1 := (unhide HS1).bound
  have b2 := (unhide HS2).bound
  rw [hn1] at p1 z1
  rw [hn2] at p2 z2
  rw [unhide HH] at z2 g2
  have hk1 := (unhide HK).1
  have hk2 := (unhide HK).2
  have q1 : E1 + 1074 = (n1 : Int) := by omega
  have q2 : E2 + 1074 = (n2 : Int) := by omega
  have nl1 : n1 ≤ 10000 := by omega
  have nl2 : n2 ≤ 10000 := by omega
  have r1 : -1074 ≤ E1 ∧ E1 ≤ 971 := by omega
  have r2 : -1074 ≤ E2 ∧ E2 ≤ 971 := by omega
  have B1 : Hid (N1 < 4294967296 ^ 1000) := B_mono (b := 1000) b1 (by decide)
  have B2 : Hid (N2 < 4294967296 ^ 1000) := B_mono (b := 1000) b2 (by decide)
  have hT : Hid (N1 * 2 ^ n1 < 4294967296 ^ 1000) := NB b1 nl1
  have hEq : Hid (N2 * 2 ^ n2 = N1 * 2 ^ n1) := by unfold Hid; rw [z1, z2]
  have hz : Hid (N1 * 2 ^ n1 ≠ 0 → s1 = s2) := fun h0 => by
    have a1 : N1 ≠ 0 := fun h => h0 (by rw [h, Nat.zero_mul])
    have a2 : N2 ≠ 0 := fun h => h0 (by rw [← unhide hEq, h, Nat.zero_mul])
    rw [g1 a1, g2 a2]
  clear p1 p2 z1 z2 g1 g2 b1 b2 hn1 hn2 hk1 hk2 HS1 HS2 HK HH c1 c2
  go_wp2_with fail
  refine (up_any v1 N1 n1 _ (unhide HL1) (unhide B1) nl1).mono ?_
  rintro e w3 ⟨v3, rfl, hL3, hB3⟩
  have HL3 := hide hL3
  replace HL2 := hide ((unhide HL2).below hB3)
  replace HB := hide ((unhide HB).trans (hB3.mono (unhide HB).size))
  clear hL3 hB3
  go_wp2_with fail
  refine (up_any v2 N2 n2 _ (unhide HL2) (unhide B2) nl2).mono ?_
  rintro e w4 ⟨v4, rfl, hL4, hB4⟩
  rw [unhide hEq] at hL4
  have HL4 := hide hL4
  replace HL3 := hide ((unhide HL3).below hB4)
  replace HB := hide ((unhide HB).trans (hB4.mono (unhide HB).size))
  clear hL4 hB4 hEq
  generalize N1 * 2 ^ n1 = X at *
  have cC := cmp_any v3 v4 X X w4 (unhide HL3) (unhide HL4) (unhide hT) (unhide hT)
  rw [show cmpN X X = 0 from by unfold cmpN; rw [if_neg (Nat.lt_irrefl _), if_neg (Nat.lt_irrefl _)]] at cC
  replace cC := hide cC
  go_wp2_with fail
  refine (unhide cC).mono ?_
  rintro e w5 ⟨rfl, hB5⟩
  obtain ⟨lb, lk, lc, hv3, hlk, _, _⟩ := (unhide HL3).len
  replace HB := hide ((unhide HB).trans (hB5.mono (unhide HB).size))
  clear hB5 cC HL3 HL4
  subst hv3
  by_cases h0 : lk = 0
  · subst h0
    clear hlk hz
    go_wp2
    go_ret
    exact ⟨rfl, unhide HB⟩
  · have hX0 : X ≠ 0 := fun h => h0 (hlk.2 h)
    obtain rfl := unhide hz hX0
    have e0 : ((lk : Int) == 0) = false := by rw [beq_eq_false_iff_ne]; omega
    have e1 : (s1 == s1) = true := by cases s1 <;> rfl
    clear hlk hz h0
    go_wp2
    go_ret
    exact ⟨rfl, unhide HB⟩

theorem exp_of (a : Nat) (_ : a < 18446744073709551616) : a / 4503599627370496 % 2048 = rg a / 4503599627370496 := by unfold rg; omega
set_option maxRecDepth 100000 in
set_option maxHeartbeats 1600000 in
theorem exactLaw (a b : Nat) (w : World) (ha : a < 18446744073709551616) (hb : b < 18446744073709551616) :
    Calls Try.prog 7 #[.int .u64 (a : Int), .int .u64 (b : Int)] w fun e w' => e = .returned (.bool true) ∧ Below w.heap.size w w' := by
  have HB := hide (Below.refl w.heap.size w)
  have b1 := band_ex a ha
  have b2 := band_ex b hb
  rw [exp_of a ha] at b1
  rw [exp_of b hb] at b2
  by_cases h1 : 2045 ≤ rg a / 4503599627370496
  · generalize rg a / 4503599627370496 = x at *
    have g1 : (2045 : Int) ≤ (x : Int) := by omega
    clear h1 b2 ha hb
    go_enter Try.func7, Try.ntmps7
    go_wp2
    go_ret
    exact ⟨rfl, unhide HB⟩
  have g1 : decide ((2045 : Int) ≤ ((rg a / 4503599627370496 : Nat) : Int)) = false := by rw [decide_eq_false_iff_not]; omega
  by_cases h2 : 2045 ≤ rg b / 4503599627370496
  · generalize rg a / 4503599627370496 = x at *
    generalize rg b / 4503599627370496 = y at *
    have g2 : (2045 : Int) ≤ (y : Int) := by omega
    clear h1 h2 ha hb
    go_enter Try.func7, Try.ntmps7
    go_wp2
    go_ret
    exact ⟨rfl, unhide HB⟩
  have g2 : decide ((2045 : Int) ≤ ((rg b / 4503599627370496 : Nat) : Int)) = false := by rw [decide_eq_false_iff_not]; omega
  obtain ⟨f1, f2, hE⟩ := exact_words a b ha hb (by omega) (by omega)
  have c1 := add_any a b
  have c2 := sub_any (addN a b) a ha
  have c3 := sub_any (addN a b) (subN (addN a b) a) (add_lt64 _ _)
  have c4 := sub_any a (subN (addN a b) (subN (addN a b) a)) (add_lt64 _ _)
  have c5 := sub_any b (subN (addN a b) a) (add_lt64 _ _)
  have c6 := add_any (subN a (subN (addN a b) (subN (addN a b) a))) (subN b (subN (addN a b) a))
  have l1 := add_lt64 a b
  have l2 := add_lt64 (subN a (subN (addN a b) (subN (addN a b) a))) (subN b (subN (addN a b) a))
  generalize addN (subN a (subN (addN a b) (subN (addN a b) a))) (subN b (subN (addN a b) a)) = e at *
  generalize subN a (subN (addN a b) (subN (addN a b) a)) = x at *
  generalize subN (addN a b) (subN (addN a b) a) = p at *
  generalize subN b (subN (addN a b) a) = y at *
  generalize subN (addN a b) a = t at *
  generalize addN a b = s at *
  have c7 := hide (same_any a b s e ha hb l1 l2 (by omega) (by omega) f1 f2 hE)
  have b3 := band_ex s l1
  have b4 := band_ex e l2
  rw [exp_of s l1] at b3
  rw [exp_of e l2] at b4
  have g3 : (((rg s / 4503599627370496 : Nat) : Int) == 2047) = false := by rw [beq_eq_false_iff_ne]; omega
  have g4 : (((rg e / 4503599627370496 : Nat) : Int) == 2047) = false := by rw [beq_eq_false_iff_ne]; omega
  generalize rg a / 4503599627370496 = xa at *
  generalize rg b / 4503599627370496 = xb at *
  generalize rg s / 4503599627370496 = xs at *
  generalize rg e / 4503599627370496 = xe at *
  replace c1 := hide c1
  replace c2 := hide c2
  replace c3 := hide c3
  replace c4 := hide c4
  replace c5 := hide c5
  replace c6 := hide c6
  clear ha hb h1 h2 f1 f2 hE l1 l2
  go_enter Try.func7, Try.ntmps7
  go_wp2_with fail
  refine (unhide c1 _).mono ?_
  rintro ee w1 ⟨rfl, hb1⟩
  replace HB := hide ((unhide HB).trans (hb1.mono (unhide HB).size))
  clear hb1
  go_wp2_with fail
  refine (unhide c2 _).mono ?_
  rintro ee w2 ⟨rfl, hb2⟩
  replace HB := hide ((unhide HB).trans (hb2.mono (unhide HB).size))
  clear hb2
  go_wp2_with fail
  refine (unhide c3 _).mono ?_
  rintro ee w3 ⟨rfl, hb3⟩
  replace HB := hide ((unhide HB).trans (hb3.mono (unhide HB).size))
  clear hb3
  go_wp2_with fail
  refine (unhide c4 _).mono ?_
  rintro ee w4 ⟨rfl, hb4⟩
  replace HB := hide ((unhide HB).trans (hb4.mono (unhide HB).size))
  clear hb4
  go_wp2_with fail
  refine (unhide c5 _).mono ?_
  rintro ee w5 ⟨rfl, hb5⟩
  replace HB := hide ((unhide HB).trans (hb5.mono (unhide HB).size))
  clear hb5
  go_wp2_with fail
  refine (unhide c6 _).mono ?_
  rintro ee w6 ⟨rfl, hb6⟩
  replace HB := hide ((unhide HB).trans (hb6.mono (unhide HB).size))
  clear hb6
  go_wp2_with fail
  refine (unhide c7 _).mono ?_
  rintro ee w7 ⟨rfl, hb7⟩
  replace HB := hide ((unhide HB).trans (hb7.mono (unhide HB).size))
  clear hb7
  go_wp2
  go_ret
  exact ⟨rfl, unhide HB⟩
end Go.Proofs.Ytnikbaibchgmnaa
