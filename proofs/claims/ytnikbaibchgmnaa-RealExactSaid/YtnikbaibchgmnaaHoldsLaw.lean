/-
  The document's Less and Equal; RealHolds.
-/
import Derived.Test.YtnikbaibchgmnaaSum
namespace Go.Proofs.Ytnikbaibchgmnaa
open Go.RowKit Ieee

theorem class_inf {a : Nat} (h : rg a = 9218868437227405312) : classN a = 1 := by
  unfold classN
  have h2 : a % 9223372036854775808 = 9218868437227405312 := h
  rw [show isN a = false from by rw [isN_eq, h]; decide, if_neg (by simp), if_pos h2]
theorem class_fin {a : Nat} (h : rg a < 9218868437227405312) : classN a = 2 ∨ classN a = 3 ∨ classN a = 4 := by
  unfold classN
  have h2 : a % 9223372036854775808 < 9218868437227405312 := h
  rw [show isN a = false from by rw [isN_eq, decide_eq_false (by omega)], if_neg (by simp), if_neg (by omega)]
  split
  · exact .inl rfl
  · split
    · exact .inr (.inl rfl)
    · exact .inr (.inr rfl)
theorem class_N {a : Nat} (h : isN a = true) : classN a = 0 := by unfold classN; rw [h]; rfl
theorem Ls.len {w : World} {v : Value} {N : Nat} (h : Ls w v N) : ∃ b k cap, v = .slice b k cap ∧ (k = 0 ↔ N = 0) ∧ k ≤ cap ∧ cap ≤ maxLen := by
  obtain ⟨k, h1, h2, h3⟩ := h
  obtain ⟨b, cap, rfl, hc, hm⟩ := h1.shapeR
  rw [ds_length] at hc ⊢
  refine ⟨b, k, cap, rfl, ?_, hc, hm⟩
  constructor
  · rintro rfl; simpa using h2
  · rintro rfl
    rcases h3 with h | h
    · exact h
    · have := Bpow_pos (k - 1); omega
/-- Below, by the exact difference. -/
theorem less_fin (a b : Nat) (ha : rg a < 9218868437227405312) (hb : rg b < 9218868437227405312) : lessN a b = decide (S a < S b) := by
  unfold lessN
  rw [order_fin a b ha hb]
  rcases Int.lt_trichotomy (S a) (S b) with h | h | h
  · rw [cmp_lt h, decide_eq_true h]; rfl
  · rw [cmp_eq h, decide_eq_false (by omega)]; rfl
  · rw [cmp_gt h, decide_eq_false (by omega)]; rfl
theorem less_infL (a b : Nat) (ha : rg a = 9218868437227405312) (hb : rg b < 9218868437227405312) : lessN a b = sg a := by
  unfold lessN Format.order
  rw [read_inf a ha, read_fin b hb]
  simp only [Datum.order]
  cases sg a <;> rfl
theorem less_infR (a b : Nat) (ha : rg a < 9218868437227405312) (hb : rg b = 9218868437227405312) : lessN a b = !sg b := by
  unfold lessN Format.order
  rw [read_fin a ha, read_inf b hb]
  simp only [Datum.order]
  cases sg b <;> rfl
theorem less_infB (a b : Nat) (ha : rg a = 9218868437227405312) (hb : rg b = 9218868437227405312) : lessN a b = (sg a && !sg b) := by
  unfold lessN Format.order
  rw [read_inf a ha, read_inf b hb]
  cases sg a <;> cases sg b <;> decide
theorem inf_eq {a b : Nat} (h1 : a < 18446744073709551616) (h2 : b < 18446744073709551616) (ha : rg a = 9218868437227405312) (hb : rg b = 9218868437227405312) : a = b ↔ sg a = sg b := by
  constructor
  · rintro rfl; rfl
  · intro h
    rw [← word_sg_rg h1, ← word_sg_rg h2, ha, hb, h]

set_option maxRecDepth 100000 in
set_option maxHeartbeats 3200000 in
theorem rless_any (a b : Nat) (ha : a < 18446744073709551616) (hb : b < 18446744073709551616) (w : World) :
    Calls Try.prog 17 #[.int .u64 (a : Int), .int .u64 (b : Int)] w fun e w' => e = .returned (.bool (lessN a b)) ∧ Below w.heap.size w w' := by
  have cA := rclass_any a ha
  have cB := rclass_any b hb
  have nA := negative_any a ha
  have nB := negative_any b hb
  have HB := hide (Below.refl w.heap.size w)
  cases hna : isN a
  · cases hnb : isN b
    · rcases Nat.lt_or_ge (rg a) 9218868437227405312 with fa | fa
      · rcases Nat.lt_or_ge (rg b) 9218868437227405312 with fb | fb
        · -- both finite
          have cN := rneg_any b hb
          rw [neg_of_notN hb hnb] at cN
          have cS := hide (sum_any a (flip b) ha (flip_lt hb) fa (by rw [flip_rg hb]; exact fb))
          have hS : S a + S (flip b) = S a - S b := by rw [S_flip hb]; omega
          have hL := less_fin a b fa fb
          have HS := hide hS
          have HL := hide hL
          have kA := class_fin fa
          have kB := class_fin fb
          generalize lessN a b = l at *
          have cN := hide cN
          have gA0 : (classN a == 0) = false := by rw [beq_eq_false_iff_ne]; omega
          have gA1 : (classN a == 1) = false := by rw [beq_eq_false_iff_ne]; omega
          have gB0 : (classN b == 0) = false := by rw [beq_eq_false_iff_ne]; omega
          have gB1 : (classN b == 1) = false := by rw [beq_eq_false_iff_ne]; omega
          generalize classN a = ca at *
          generalize classN b = cb at *
          replace cA := hide cA
          replace cB := hide cB
          clear nA nB hna hnb fa fb ha hb hS hL kA kB
          go_enter Try.func17, Try.ntmps17
          go_wp2_with fail
          refine (unhide cA _).mono ?_
          rintro e w1 ⟨rfl, rfl⟩
          go_wp2_with fail
          refine (unhide cB _).mono ?_
          rintro e w1 ⟨rfl, rfl⟩
          go_wp2_with fail
          refine (unhide cN _).mono ?_
          rintro e w1 ⟨rfl, rfl⟩
          go_wp2_with fail
          refine (unhide cS _).mono ?_
          rintro e w2 ⟨v, N, neg, E, rfl, hLs, hSum, hb2⟩
          obtain ⟨vb, k, cap, rfl, hk0, _, _⟩ := hLs.len
          have HK := hide hk0
          have HSum := hide hSum
          replace HB := hide ((unhide HB).trans (hb2.mono (unhide HB).size))
          clear hLs hSum hb2 hk0
          have hres : Hid (l = (neg && decide (0 < k))) := by
            unfold Hid
            have h1 := (unhide HSum).size
            have h2 := (unhide HSum).sign
            rw [unhide HS] at h1 h2
            rw [unhide HL]
            by_cases hN : N = 0
            · subst hN
              have : k = 0 := (unhide HK).2 rfl
              rw [Nat.zero_mul] at h1
              rw [this, decide_eq_false (by omega)]; simp
            · have hkp : k ≠ 0 := fun h => hN ((unhide HK).1 h)
              rw [h2 hN, decide_eq_true (show 0 < k by omega), Bool.and_true]
              exact decide_eq_decide.2 (by omega)
          clear HSum HS HL
          cases neg
          · go_wp2
            go_ret
            exact ⟨by rw [unhide hres]; rfl, unhide HB⟩
          · by_cases hk : k = 0
            · subst hk
              go_wp2
              go_ret
              exact ⟨by rw [unhide hres]; rfl, unhide HB⟩
            · have hkp : (0 : Int) < (k : Int) := by omega
              have hkn : 0 < k := by omega
              have hdd : Hid (decide (0 < k) = true) := decide_eq_true hkn
              go_wp2
              go_ret
              exact ⟨by rw [unhide hres, unhide hdd]; rfl, unhide HB⟩
        · -- b infinite
          have ib : rg b = 9218868437227405312 := by have := notN_le hnb; omega
          rw [class_inf ib] at cB
          rw [less_infR a b fa ib]
          have kA := class_fin fa
          have gA0 : (classN a == 0) = false := by rw [beq_eq_false_iff_ne]; omega
          have gA1 : (classN a == 1) = false := by rw [beq_eq_false_iff_ne]; omega
          generalize classN a = ca at *
          generalize sg b = sb at *
          replace cA := hide cA
          replace cB := hide cB
          replace nB := hide nB
          clear nA hna hnb fa fb ib ha hb kA
          go_enter Try.func17, Try.ntmps17
          go_wp2_with fail
          refine (unhide cA _).mono ?_
          rintro e w1 ⟨rfl, rfl⟩
          go_wp2_with fail
          refine (unhide cB _).mono ?_
          rintro e w2 ⟨rfl, rfl⟩
          go_wp2_with fail
          refine (unhide nB _).mono ?_
          rintro e w3 ⟨rfl, rfl⟩
          go_wp2
          go_ret
          exact ⟨rfl, unhide HB⟩
      · have ia : rg a = 9218868437227405312 := by have := notN_le hna; omega
        rw [class_inf ia] at cA
        rcases Nat.lt_or_ge (rg b) 9218868437227405312 with fb | fb
        · rw [less_infL a b ia fb]
          have kB := class_fin fb
          have gB0 : (classN b == 0) = false := by rw [beq_eq_false_iff_ne]; omega
          have gB1 : (classN b == 1) = false := by rw [beq_eq_false_iff_ne]; omega
          generalize classN b = cb at *
          generalize sg a = sa at *
          replace cA := hide cA
          replace cB := hide cB
          replace nA := hide nA
          clear nB hna hnb fa fb ia ha hb kB
          go_enter Try.func17, Try.ntmps17
          go_wp2_with fail
          refine (unhide cA _).mono ?_
          rintro e w1 ⟨rfl, rfl⟩
          go_wp2_with fail
          refine (unhide cB _).mono ?_
          rintro e w2 ⟨rfl, rfl⟩
          go_wp2_with fail
          refine (unhide nA _).mono ?_
          rintro e w3 ⟨rfl, rfl⟩
          go_wp2
          go_ret
          exact ⟨rfl, unhide HB⟩
        · have ib : rg b = 9218868437227405312 := by have := notN_le hnb; omega
          rw [class_inf ib] at cB
          rw [less_infB a b ia ib]
          have hq := inf_eq ha hb ia ib
          by_cases hab : a = b
          · subst hab
            replace cA := hide cA
            replace cB := hide cB
            have hr : Hid ((sg a && !sg a) = false) := by unfold Hid; cases sg a <;> rfl
            clear nA nB hna hnb fa fb ia ib ha hb hq
            go_enter Try.func17, Try.ntmps17
            go_wp2_with fail
            refine (unhide cA _).mono ?_
            rintro e w1 ⟨rfl, rfl⟩
            go_wp2_with fail
            refine (unhide cB _).mono ?_
            rintro e w2 ⟨rfl, rfl⟩
            go_wp2
            go_ret
            exact ⟨by rw [unhide hr]; rfl, unhide HB⟩
          · have hab2 : ((a : Int) == (b : Int)) = false := by rw [beq_eq_false_iff_ne]; omega
            have hs : sg a ≠ sg b := fun h => hab (hq.2 h)
            have hr : Hid ((sg a && !sg b) = sg a) := by unfold Hid; cases h1 : sg a <;> cases h2 : sg b <;> simp_all
            generalize (sg a && !sg b) = rr at *
            generalize sg a = sa at *
            replace cA := hide cA
            replace cB := hide cB
            replace nA := hide nA
            clear nB hna hnb fa fb ia ib ha hb hq hs hab
            go_enter Try.func17, Try.ntmps17
            go_wp2_with fail
            refine (unhide cA _).mono ?_
            rintro e w1 ⟨rfl, rfl⟩
            go_wp2_with fail
            refine (unhide cB _).mono ?_
            rintro e w2 ⟨rfl, rfl⟩
            go_wp2_with fail
            refine (unhide nA _).mono ?_
            rintro e w3 ⟨rfl, rfl⟩
            go_wp2
            go_ret
            exact ⟨by rw [unhide hr]; rfl, unhide HB⟩
    · rw [class_N hnb] at cB
      rw [less_N a b (.inr hnb)]
      have zA := classN_zero a
      rw [hna] at zA
      generalize classN a = ca at *
      replace cA := hide cA
      replace cB := hide cB
      clear nA nB hna hnb ha hb
      go_enter Try.func17, Try.ntmps17
      go_wp2_with fail
      refine (unhide cA _).mono ?_
      rintro e w1 ⟨rfl, rfl⟩
      go_wp2_with fail
      refine (unhide cB _).mono ?_
      rintro e w2 ⟨rfl, rfl⟩
      go_wp2
      go_ret
      exact ⟨rfl, unhide HB⟩
  · rw [class_N hna] at cA
    rw [less_N a b (.inl hna)]
    replace cA := hide cA
    replace cB := hide cB
    clear nA nB hna ha hb
    go_enter Try.func17, Try.ntmps17
    go_wp2_with fail
    refine (unhide cA _).mono ?_
    rintro e w1 ⟨rfl, rfl⟩
    go_wp2_with fail
    refine (unhide cB _).mono ?_
    rintro e w2 ⟨rfl, rfl⟩
    go_wp2
    go_ret
    exact ⟨rfl, unhide HB⟩

theorem equal_less (a b : Nat) (na : isN a = false) (nb : isN b = false) (ha : a < 18446744073709551616) (hb : b < 18446744073709551616) : equalN a b = (!lessN a b && !lessN b a) := by
  rw [equal_eq a b ha hb na nb, less_eq a b ha hb na nb, less_eq b a hb ha nb na]
  rcases Int.lt_trichotomy (keyN a) (keyN b) with h | h | h
  · rw [decide_eq_true h, decide_eq_false (by omega)]; rfl
  · rw [decide_eq_true h, decide_eq_false (show ¬ keyN a < keyN b by omega), decide_eq_false (show ¬ keyN b < keyN a by omega)]; rfl
  · rw [decide_eq_true h, decide_eq_false (show ¬ keyN a = keyN b by omega)]; simp
set_option maxRecDepth 100000 in
set_option maxHeartbeats 800000 in
theorem requal_any (a b : Nat) (ha : a < 18446744073709551616) (hb : b < 18446744073709551616) (w : World) :
    Calls Try.prog 19 #[.int .u64 (a : Int), .int .u64 (b : Int)] w fun e w' => e = .returned (.bool (equalN a b)) ∧ Below w.heap.size w w' := by
  have cA := rclass_any a ha
  have cB := rclass_any b hb
  have cL := rless_any a b ha hb
  have cM := rless_any b a hb ha
  have zA := classN_zero a
  have zB := classN_zero b
  have HB := hide (Below.refl w.heap.size w)
  cases hna : isN a
  · rw [hna] at zA
    cases hnb : isN b
    · rw [hnb] at zB
      rw [equal_less a b hna hnb ha hb]
      generalize classN a = ca at *
      generalize classN b = cb at *
      generalize lessN a b = l1 at *
      generalize lessN b a = l2 at *
      replace cA := hide cA
      replace cB := hide cB
      replace cL := hide cL
      replace cM := hide cM
      clear hna hnb ha hb
      cases l1
      · skip
        go_enter Try.func19, Try.ntmps19
        go_wp2_with fail
        refine (unhide cA _).mono ?_
        rintro e w1 ⟨rfl, rfl⟩
        go_wp2_with fail
        refine (unhide cB _).mono ?_
        rintro e w2 ⟨rfl, rfl⟩
        go_wp2_with fail
        refine (unhide cL _).mono ?_
        rintro e w3 ⟨rfl, hb3⟩
        replace HB := hide ((unhide HB).trans (hb3.mono (unhide HB).size))
        clear hb3
        go_wp2_with fail
        refine (unhide cM _).mono ?_
        rintro e w4 ⟨rfl, hb4⟩
        replace HB := hide ((unhide HB).trans (hb4.mono (unhide HB).size))
        clear hb4
        go_wp2
        go_ret
        exact ⟨rfl, unhide HB⟩
      · skip
        go_enter Try.func19, Try.ntmps19
        go_wp2_with fail
        refine (unhide cA _).mono ?_
        rintro e w1 ⟨rfl, rfl⟩
        go_wp2_with fail
        refine (unhide cB _).mono ?_
        rintro e w2 ⟨rfl, rfl⟩
        go_wp2_with fail
        refine (unhide cL _).mono ?_
        rintro e w3 ⟨rfl, hb3⟩
        replace HB := hide ((unhide HB).trans (hb3.mono (unhide HB).size))
        clear hb3
        go_wp2
        go_ret
        exact ⟨rfl, unhide HB⟩
    · rw [hnb] at zB
      rw [equal_N a b (.inr hnb)]
      generalize classN a = ca at *
      generalize classN b = cb at *
      replace cA := hide cA
      replace cB := hide cB
      clear hna hnb ha hb cL cM
      go_enter Try.func19, Try.ntmps19
      go_wp2_with fail
      refine (unhide cA _).mono ?_
      rintro e w1 ⟨rfl, rfl⟩
      go_wp2_with fail
      refine (unhide cB _).mono ?_
      rintro e w2 ⟨rfl, rfl⟩
      go_wp2
      go_ret
      exact ⟨rfl, unhide HB⟩
  · rw [hna] at zA
    rw [equal_N a b (.inl hna)]
    generalize classN a = ca at *
    replace cA := hide cA
    clear hna ha hb cL cM cB zB
    go_enter Try.func19, Try.ntmps19
    go_wp2_with fail
    refine (unhide cA _).mono ?_
    rintro e w1 ⟨rfl, rfl⟩
    go_wp2
    go_ret
    exact ⟨rfl, unhide HB⟩

set_option maxRecDepth 100000 in
set_option maxHeartbeats 800000 in
theorem holdsLaw (a b : Nat) (w : World) (ha : a < 18446744073709551616) (hb : b < 18446744073709551616) :
    Calls Try.prog 5 #[.int .u64 (a : Int), .int .u64 (b : Int)] w fun e w' => e = .returned (.bool true) ∧ Below w.heap.size w w' := by
  have c1 := hide (less_any a b)
  have c2 := hide (rless_any a b ha hb)
  have c3 := hide (equal_any a b)
  have c4 := hide (requal_any a b ha hb)
  have be := bool_eql
  have HB := hide (Below.refl w.heap.size w)
  generalize lessN a b = l at *
  generalize equalN a b = q at *
  have e1 : (l == l) = true := by cases l <;> rfl
  have e2 : (q == q) = true := by cases q <;> rfl
  clear ha hb
  go_enter Try.func5, Try.ntmps5
  go_wp2_with fail
  refine (unhide c1 _).mono ?_
  rintro e w1 ⟨rfl, rfl⟩
  go_wp2_with fail
  refine (unhide c2 _).mono ?_
  rintro e w2 ⟨rfl, hb2⟩
  replace HB := hide ((unhide HB).trans (hb2.mono (unhide HB).size))
  clear hb2
  go_wp2_with fail
  refine (unhide c3 _).mono ?_
  rintro e w3 ⟨rfl, rfl⟩
  go_wp2_with fail
  refine (unhide c4 _).mono ?_
  rintro e w4 ⟨rfl, hb4⟩
  replace HB := hide ((unhide HB).trans (hb4.mono (unhide HB).size))
  clear hb4
  go_wp2
  go_ret
  exact ⟨rfl, unhide HB⟩
end Go.Proofs.Ytnikbaibchgmnaa
