/-
  The document's Add and Sub; RealAdds.
-/
import Derived.Test.YtnikbaibchgmnaaRound
import Derived.Test.YtnikbaibchgmnaaHoldsLaw
namespace Go.Proofs.Ytnikbaibchgmnaa
open Go.RowKit Ieee

theorem add_infL (a b : Nat) (h1 : a < 18446744073709551616) (ha : rg a = 9218868437227405312) (hb : rg b < 9218868437227405312) : addN a b = a := by
  unfold addN Format.add
  rw [read_inf a ha, read_fin b hb]
  show double.word (sg a) 9218868437227405312 = a
  rw [← ha, word_sg_rg h1]
theorem add_infB (a b : Nat) (h1 : a < 18446744073709551616) (ha : rg a = 9218868437227405312) (hb : rg b = 9218868437227405312) : addN a b = if sg a = sg b then a else 9221120237041090560 := by
  unfold addN Format.add
  rw [read_inf a ha, read_inf b hb]
  simp only [Datum.sum]
  split
  · show double.word (sg a) 9218868437227405312 = a
    rw [← ha, word_sg_rg h1]
  · rfl
theorem zero_signs (a b : Nat) (ha : a < 18446744073709551616) (hb : b < 18446744073709551616) (h : S a + S b = 0) : (a = 9223372036854775808 ∧ b = 9223372036854775808) ↔ (sg a && sg b) = true := by
  constructor
  · rintro ⟨rfl, rfl⟩; decide
  · intro hs
    rw [Bool.and_eq_true] at hs
    unfold S at h
    rw [hs.1, hs.2] at h
    simp only [if_true] at h
    have u1 : up (rg a) = 0 := by omega
    have u2 : up (rg b) = 0 := by omega
    have r1 := (up_zero_iff _).1 u1
    have r2 := (up_zero_iff _).1 u2
    rw [← word_sg_rg ha, ← word_sg_rg hb, hs.1, hs.2, r1, r2]
    decide
theorem add_sum {a b : Nat} {neg : Bool} {N : Nat} {E : Int} (fa : rg a < 9218868437227405312) (fb : rg b < 9218868437227405312) (h : SumIs a b neg N E) (hN : N ≠ 0) : addN a b = double.nearest neg N E := by
  have h1 := h.size
  have h2 := h.place
  have h3 := h.sign hN
  obtain ⟨c, hc⟩ : ∃ c, min (kx (rg a)) (kx (rg b)) = c := ⟨_, rfl⟩
  rw [hc] at h1 h2
  have hnz : S a + S b ≠ 0 := fun h0 => by
    rw [h0] at h1
    rcases Nat.mul_eq_zero.1 h1 with h4 | h4
    · exact hN h4
    · have := Nat.two_pow_pos c; omega
  rw [add_fin a b fa fb, if_neg hnz, ← h1, ← h3, nearest_R neg N E c 0 (by omega)]
theorem add_zero' {a b : Nat} {neg : Bool} {E : Int} (fa : rg a < 9218868437227405312) (fb : rg b < 9218868437227405312) (h : SumIs a b neg 0 E) : S a + S b = 0 ∧ addN a b = double.word (sg a && sg b) 0 := by
  have h1 := h.size
  rw [Nat.zero_mul] at h1
  have h0 : S a + S b = 0 := by omega
  exact ⟨h0, by rw [add_fin a b fa fb, if_pos h0]⟩

set_option maxRecDepth 100000 in
set_option maxHeartbeats 3200000 in
theorem radd_any (a b : Nat) (ha : a < 18446744073709551616) (hb : b < 18446744073709551616) (w : World) :
    Calls Try.prog 9 #[.int .u64 (a : Int), .int .u64 (b : Int)] w fun e w' => e = .returned (.int .u64 (addN a b : Nat)) ∧ Below w.heap.size w w' := by
  have cA := rclass_any a ha
  have cB := rclass_any b hb
  have HB := hide (Below.refl w.heap.size w)
  cases hna : isN a
  · cases hnb : isN b
    · rcases Nat.lt_or_ge (rg a) 9218868437227405312 with fa | fa
      · rcases Nat.lt_or_ge (rg b) 9218868437227405312 with fb | fb
        · have cS := hide (sum_any a b ha hb fa fb)
          have kA := class_fin fa
          have kB := class_fin fb
          have gA0 : (classN a == 0) = false := by rw [beq_eq_false_iff_ne]; omega
          have gA1 : (classN a == 1) = false := by rw [beq_eq_false_iff_ne]; omega
          have gB0 : (classN b == 0) = false := by rw [beq_eq_false_iff_ne]; omega
          have gB1 : (classN b == 1) = false := by rw [beq_eq_false_iff_ne]; omega
          have HZ := hide (fun (neg : Bool) (E : Int) (h : SumIs a b neg 0 E) => And.intro (zero_signs a b ha hb (add_zero' fa fb h).1) (add_zero' fa fb h).2)
          have HA := hide (fun (neg : Bool) (N : Nat) (E : Int) (h : SumIs a b neg N E) (hN : N ≠ 0) => (add_sum fa fb h hN).trans (nearest_double neg N E).symm)
          have k1 := kx_lt fa
          have k2 := kx_lt fb
          have HK := hide (And.intro k1 k2)
          obtain ⟨Z, hZ⟩ : ∃ Z, addN a b = Z := ⟨_, rfl⟩
          rw [hZ] at HZ HA ⊢
          generalize classN a = ca at *
          generalize classN b = cb at *
          replace cA := hide cA
          replace cB := hide cB
          clear hna hnb fa fb ha hb kA kB k1 k2 hZ
          go_enter Try.func9, Try.ntmps9
          go_wp2_with fail
          refine (unhide cA _).mono ?_
          rintro e w1 ⟨rfl, rfl⟩
          go_wp2_with fail
          refine (unhide cB _).mono ?_
          rintro e w1 ⟨rfl, rfl⟩
          go_wp2_with fail
          refine (unhide cS _).mono ?_
          rintro e w2 ⟨v, N, neg, E, rfl, hLs, hSum, hb2⟩
          have HLs := hide hLs
          obtain ⟨vb, k, cap, rfl, hk0, _, _⟩ := hLs.len
          have HSum := hide hSum
          replace HB := hide ((unhide HB).trans (hb2.mono (unhide HB).size))
          clear hLs hSum hb2
          by_cases hN : N = 0
          · obtain rfl := hk0.2 hN
            subst hN
            obtain ⟨z1, z2⟩ := unhide HZ neg E (unhide HSum)
            have HZ2 := hide z2
            generalize hss : (sg a && sg b) = ss at *
            by_cases h1 : a = 9223372036854775808
            · by_cases h2 : b = 9223372036854775808
              · have hs := hide (z1.1 ⟨h1, h2⟩)
                have e1 : ((a : Int) == 9223372036854775808) = true := by rw [beq_iff_eq]; omega
                have e2 : ((b : Int) == 9223372036854775808) = true := by rw [beq_iff_eq]; omega
                clear z1 z2 h1 h2 HZ HA HSum HLs
                go_wp2_with fail
                refine (signed_any true 0 (by decide) _).mono ?_
                rintro e w3 ⟨rfl, rfl⟩
                go_wp2
                go_ret
                exact ⟨by rw [unhide HZ2, unhide hs]; rfl, unhide HB⟩
              · have hs : Hid (ss = false) := by unfold Hid; cases ss; rfl; exact absurd (z1.2 rfl).2 h2
                have e1 : ((a : Int) == 9223372036854775808) = true := by rw [beq_iff_eq]; omega
                have e2 : ((b : Int) == 9223372036854775808) = false := by rw [beq_eq_false_iff_ne]; omega
                clear z1 z2 h1 h2 HZ HA HSum HLs
                go_wp2_with fail
                refine (signed_any false 0 (by decide) _).mono ?_
                rintro e w3 ⟨rfl, rfl⟩
                go_wp2
                go_ret
                exact ⟨by rw [unhide HZ2, unhide hs]; rfl, unhide HB⟩
            · have hs : Hid (ss = false) := by unfold Hid; cases ss; rfl; exact absurd (z1.2 rfl).1 h1
              have e1 : ((a : Int) == 9223372036854775808) = false := by rw [beq_eq_false_iff_ne]; omega
              clear z1 z2 h1 HZ HA HSum HLs
              go_wp2_with fail
              refine (signed_any false 0 (by decide) _).mono ?_
              rintro e w3 ⟨rfl, rfl⟩
              go_wp2
              go_ret
              exact ⟨by rw [unhide HZ2, unhide hs]; rfl, unhide HB⟩
          · have hz := hide (unhide HA neg N E (unhide HSum) hN)
            have hk : ((k : Int) == 0) = false := by rw [beq_eq_false_iff_ne]; have : k ≠ 0 := fun h => hN (hk0.1 h); omega
            have hbd := (unhide HSum).bound
            have hpl := (unhide HSum).place
            have hkk := unhide HK
            have cR := hide (round_any neg _ N E false _ (unhide HLs) hN (B_mono (b := 1000) hbd (by decide)) (by omega) (by omega) (by intro h; cases h))
            clear hbd hpl hkk HZ HA HSum hk0
            go_wp2_with fail
            refine (unhide cR).mono ?_
            rintro e w3 ⟨rfl, hb3⟩
            replace HB := hide ((unhide HB).trans (hb3.mono (unhide HB).size))
            clear hb3
            go_wp2
            go_ret
            exact ⟨by rw [unhide hz]; rfl, unhide HB⟩
        · have ib : rg b = 9218868437227405312 := by have := notN_le hnb; omega
          rw [class_inf ib] at cB
          rw [add_comm', add_infL b a hb ib fa]
          have kA := class_fin fa
          have gA0 : (classN a == 0) = false := by rw [beq_eq_false_iff_ne]; omega
          have gA1 : (classN a == 1) = false := by rw [beq_eq_false_iff_ne]; omega
          generalize classN a = ca at *
          replace cA := hide cA
          replace cB := hide cB
          clear hna hnb fa fb ib ha hb kA
          go_enter Try.func9, Try.ntmps9
          go_wp2_with fail
          refine (unhide cA _).mono ?_
          rintro e w1 ⟨rfl, rfl⟩
          go_wp2_with fail
          refine (unhide cB _).mono ?_
          rintro e w2 ⟨rfl, rfl⟩
          go_wp2
          go_ret
          exact ⟨rfl, unhide HB⟩
      · have ia : rg a = 9218868437227405312 := by have := notN_le hna; omega
        rw [class_inf ia] at cA
        rcases Nat.lt_or_ge (rg b) 9218868437227405312 with fb | fb
        · rw [add_infL a b ha ia fb]
          have kB := class_fin fb
          have gB0 : (classN b == 0) = false := by rw [beq_eq_false_iff_ne]; omega
          have gB1 : (classN b == 1) = false := by rw [beq_eq_false_iff_ne]; omega
          generalize classN b = cb at *
          replace cA := hide cA
          replace cB := hide cB
          clear hna hnb fa fb ia ha hb kB
          go_enter Try.func9, Try.ntmps9
          go_wp2_with fail
          refine (unhide cA _).mono ?_
          rintro e w1 ⟨rfl, rfl⟩
          go_wp2_with fail
          refine (unhide cB _).mono ?_
          rintro e w2 ⟨rfl, rfl⟩
          go_wp2
          go_ret
          exact ⟨rfl, unhide HB⟩
        · have ib : rg b = 9218868437227405312 := by have := notN_le hnb; omega
          rw [class_inf ib] at cB
          rw [add_infB a b ha ia ib]
          have hq := inf_eq ha hb ia ib
          by_cases hab : a = b
          · subst hab
            rw [if_pos rfl]
            replace cA := hide cA
            replace cB := hide cB
            clear hna hnb fa fb ia ib ha hb hq
            go_enter Try.func9, Try.ntmps9
            go_wp2_with fail
            refine (unhide cA _).mono ?_
            rintro e w1 ⟨rfl, rfl⟩
            go_wp2_with fail
            refine (unhide cB _).mono ?_
            rintro e w2 ⟨rfl, rfl⟩
            go_wp2
            go_ret
            exact ⟨rfl, unhide HB⟩
          · rw [if_neg (fun h => hab (hq.2 h))]
            have hab2 : ((a : Int) != (b : Int)) = true := by rw [bne_iff_ne]; omega
            replace cA := hide cA
            replace cB := hide cB
            clear hna hnb fa fb ia ib ha hb hq hab
            go_enter Try.func9, Try.ntmps9
            go_wp2_with fail
            refine (unhide cA _).mono ?_
            rintro e w1 ⟨rfl, rfl⟩
            go_wp2_with fail
            refine (unhide cB _).mono ?_
            rintro e w2 ⟨rfl, rfl⟩
            go_wp2
            go_ret
            exact ⟨rfl, unhide HB⟩
    · rw [class_N hnb] at cB
      rw [add_NR a hnb]
      have zA := classN_zero a
      rw [hna] at zA
      generalize classN a = ca at *
      replace cA := hide cA
      replace cB := hide cB
      clear hna hnb ha hb
      go_enter Try.func9, Try.ntmps9
      go_wp2_with fail
      refine (unhide cA _).mono ?_
      rintro e w1 ⟨rfl, rfl⟩
      go_wp2_with fail
      refine (unhide cB _).mono ?_
      rintro e w2 ⟨rfl, rfl⟩
      go_wp2
      go_ret
      exact ⟨rfl, unhide HB⟩
  · rw [class_N hna] at cA
    rw [add_NL hna b]
    replace cA := hide cA
    replace cB := hide cB
    clear hna ha hb
    go_enter Try.func9, Try.ntmps9
    go_wp2_with fail
    refine (unhide cA _).mono ?_
    rintro e w1 ⟨rfl, rfl⟩
    go_wp2_with fail
    refine (unhide cB _).mono ?_
    rintro e w2 ⟨rfl, rfl⟩
    go_wp2
    go_ret
    exact ⟨rfl, unhide HB⟩

set_option maxRecDepth 100000 in
theorem rsub_any (a b : Nat) (ha : a < 18446744073709551616) (hb : b < 18446744073709551616) (w : World) :
    Calls Try.prog 11 #[.int .u64 (a : Int), .int .u64 (b : Int)] w fun e w' => e = .returned (.int .u64 (subN a b : Nat)) ∧ Below w.heap.size w w' := by
  have c1 := hide (rneg_any b hb)
  have c2 := hide (radd_any a (negN b) ha (neg_lt64 hb))
  rw [show subN a b = addN a (negN b) from rfl]
  have HB := hide (Below.refl w.heap.size w)
  generalize negN b = n at *
  generalize addN a n = s at *
  clear ha hb
  go_enter Try.func11, Try.ntmps11
  go_wp2_with fail
  refine (unhide c1 _).mono ?_
  rintro e w1 ⟨rfl, rfl⟩
  go_wp2_with fail
  refine (unhide c2 _).mono ?_
  rintro e w2 ⟨rfl, hb2⟩
  replace HB := hide ((unhide HB).trans (hb2.mono (unhide HB).size))
  clear hb2
  go_wp2
  go_ret
  exact ⟨rfl, unhide HB⟩

set_option maxRecDepth 100000 in
theorem addsLaw (a b : Nat) (w : World) (ha : a < 18446744073709551616) (hb : b < 18446744073709551616) :
    Calls Try.prog 3 #[.int .u64 (a : Int), .int .u64 (b : Int)] w fun e w' => e = .returned (.bool true) ∧ Below w.heap.size w w' := by
  have c1 := hide (add_any a b)
  have c2 := hide (radd_any a b ha hb)
  have c3 := hide (sub_any a b hb)
  have c4 := hide (rsub_any a b ha hb)
  have HB := hide (Below.refl w.heap.size w)
  generalize addN a b = s at *
  generalize subN a b = d at *
  clear ha hb
  go_enter Try.func3, Try.ntmps3
  go_wp2_with fail
  refine (unhide c1 _).mono ?_
  rintro e w1 ⟨rfl, hb1⟩
  replace HB := hide ((unhide HB).trans (hb1.mono (unhide HB).size))
  clear hb1
  go_wp2_with fail
  refine (unhide c2 _).mono ?_
  rintro e w2 ⟨rfl, hb2⟩
  replace HB := hide ((unhide HB).trans (hb2.mono (unhide HB).size))
  clear hb2
  go_wp2_with fail
  refine (unhide c3 _).mono ?_
  rintro e w3 ⟨rfl, hb3⟩
  replace HB := hide ((unhide HB).trans (hb3.mono (unhide HB).size))
  clear hb3
  go_wp2_with fail
  refine (unhide c4 _).mono ?_
  rintro e w4 ⟨rfl, hb4⟩
  replace HB := hide ((unhide HB).trans (hb4.mono (unhide HB).size))
  clear hb4
  go_wp2
  go_ret
  exact ⟨rfl, unhide HB⟩
end Go.Proofs.Ytnikbaibchgmnaa
