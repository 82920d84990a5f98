/-
  The document's Mul and Div; RealMuls.
-/
import Derived.Test.YtnikbaibchgmnaaRound
import Derived.Test.YtnikbaibchgmnaaOver
import Derived.Test.YtnikbaibchgmnaaHoldsLaw
import Derived.Test.YtnikbaibchgmnaaQuot2
namespace Go.Proofs.Ytnikbaibchgmnaa
open Go.RowKit Ieee

theorem class_zero {a : Nat} (h : rg a = 0) : classN a = 2 := by
  unfold classN
  have h2 : a % 9223372036854775808 = 0 := h
  rw [show isN a = false from by rw [isN_eq, h]; decide, if_neg (by simp), if_neg (by omega), if_pos h2]
theorem class_nz {a : Nat} (h : rg a < 9218868437227405312) (h0 : rg a ≠ 0) : classN a = 3 ∨ classN a = 4 := by
  unfold classN
  have h2 : a % 9223372036854775808 < 9218868437227405312 := h
  have h3 : ¬ a % 9223372036854775808 = 0 := h0
  rw [show isN a = false from by rw [isN_eq, decide_eq_false (by omega)], if_neg (by simp), if_neg (by omega), if_neg h3]
  split
  · exact .inl rfl
  · exact .inr rfl
theorem mg_zero {r : Nat} (h : r = 0) : mg r = 0 := by subst h; rfl
theorem fin_of_zero {a : Nat} (h : rg a = 0) : rg a < 9218868437227405312 := by omega
theorem mulII (a b : Nat) (ha : rg a = 9218868437227405312) (hb : rg b = 9218868437227405312) : mulN a b = double.word (sg a != sg b) 9218868437227405312 := by
  unfold mulN Format.mul; rw [read_inf a ha, read_inf b hb]; cases sg a <;> cases sg b <;> rfl
theorem mulIZ (a b : Nat) (ha : rg a = 9218868437227405312) (hb : rg b = 0) : mulN a b = 9221120237041090560 := by
  unfold mulN Format.mul; rw [read_inf a ha, read_fin b (fin_of_zero hb), hb]; rfl
theorem mulIF (a b : Nat) (ha : rg a = 9218868437227405312) (hb : rg b < 9218868437227405312) (h0 : rg b ≠ 0) : mulN a b = double.word (sg a != sg b) 9218868437227405312 := by
  unfold mulN Format.mul; rw [read_inf a ha, read_fin b hb]
  simp only [Datum.product]
  rw [if_neg (mg_pos h0)]
  all_goals (cases sg a <;> cases sg b <;> rfl)
theorem mulZZ (a b : Nat) (ha : rg a < 9218868437227405312) (hb : rg b < 9218868437227405312) (h : rg a = 0 ∨ rg b = 0) : mulN a b = double.word (sg a != sg b) 0 := by
  rw [mul_fin a b ha hb]
  have : up (rg a) * up (rg b) = 0 := by
    rcases h with h | h
    · rw [h, up_zero, Nat.zero_mul]
    · rw [h, up_zero, Nat.mul_zero]
  rw [this, R_zero]
  all_goals (cases sg a <;> cases sg b <;> rfl)
theorem mulFF (a b : Nat) (ha : rg a < 9218868437227405312) (hb : rg b < 9218868437227405312) : mulN a b = double.nearest (sg a != sg b) (2 * (mg (rg a) * mg (rg b)) + (false).toNat) ((-1074 + (kx (rg a) : Int)) + (-1074 + (kx (rg b) : Int)) - 1) := by
  have hx : (sg a ^^ sg b) = (sg a != sg b) := by cases sg a <;> cases sg b <;> rfl
  rw [nearest_double, ← hx]
  unfold mulN Format.mul
  rw [read_fin a ha, read_fin b hb]
  simp only [Datum.product, Option.map_some, Option.getD_some]
  rfl
theorem ne_comm (x y : Bool) : (x != y) = (y != x) := by cases x <;> cases y <;> rfl
theorem divII (a b : Nat) (ha : rg a = 9218868437227405312) (hb : rg b = 9218868437227405312) : divN a b = 9221120237041090560 := by
  unfold divN; rw [dbl_div, read_inf a ha, read_inf b hb]; rfl
theorem divIF (a b : Nat) (ha : rg a = 9218868437227405312) (hb : rg b < 9218868437227405312) : divN a b = double.word (sg a != sg b) 9218868437227405312 := by
  have hx : (sg a ^^ sg b) = (sg a != sg b) := by cases sg a <;> cases sg b <;> rfl
  unfold divN; rw [dbl_div, read_inf a ha, read_fin b hb, ← hx]
  simp only [Datum.quotient, Option.map_some, Option.getD_some]
  rfl
theorem divFI (a b : Nat) (ha : rg a < 9218868437227405312) (hb : rg b = 9218868437227405312) : divN a b = double.word (sg a != sg b) 0 := by
  unfold divN; rw [dbl_div, read_fin a ha, read_inf b hb]
  show double.nearest (sg a ^^ sg b) 0 0 = _
  unfold Format.nearest
  rw [if_pos rfl]
  all_goals (cases sg a <;> cases sg b <;> rfl)
theorem divZZ (a b : Nat) (ha : rg a = 0) (hb : rg b = 0) : divN a b = 9221120237041090560 := by
  unfold divN; rw [dbl_div, read_fin a (fin_of_zero ha), read_fin b (fin_of_zero hb), ha, hb]; rfl
theorem divFZ (a b : Nat) (ha : rg a < 9218868437227405312) (h0 : rg a ≠ 0) (hb : rg b = 0) : divN a b = double.word (sg a != sg b) 9218868437227405312 := by
  unfold divN; rw [dbl_div, read_fin a ha, read_fin b (fin_of_zero hb), mg_zero hb]
  simp only [Datum.quotient, if_true]
  rw [if_neg (mg_pos h0)]
  all_goals (cases sg a <;> cases sg b <;> rfl)
theorem divZF (a b : Nat) (ha : rg a = 0) (hb : rg b < 9218868437227405312) (h0 : rg b ≠ 0) : divN a b = double.word (sg a != sg b) 0 := by
  unfold divN; rw [dbl_div, read_fin a (fin_of_zero ha), read_fin b hb, mg_zero ha]
  simp only [Datum.quotient]
  rw [if_neg (mg_pos h0), Nat.zero_shiftLeft, Nat.zero_div, Nat.zero_mod]
  simp only [Option.map_some, Option.getD_some]
  show double.nearest (sg a ^^ sg b) 0 _ = _
  unfold Format.nearest
  rw [if_pos rfl]
  all_goals (cases sg a <;> cases sg b <;> rfl)
theorem q110_big (a b : Nat) (h0 : rg a ≠ 0) (z0 : rg b ≠ 0) : 9007199254740992 * mg (rg b) ≤ mg (rg a) * 2 ^ 110 ∧ 18014398509481984 ≤ mg (rg a) * 2 ^ 110 / mg (rg b) ∧ mg (rg a) * 2 ^ 110 < 2 ^ 163 := by
  have h1 := mg_lt (rg b)
  have h2 := mg_lt (rg a)
  have h3 := mg_pos h0
  have h4 : 1 * 2 ^ 110 ≤ mg (rg a) * 2 ^ 110 := Nat.mul_le_mul_right _ (by omega)
  have h6 : mg (rg a) * 2 ^ 110 < 9007199254740992 * 2 ^ 110 := Nat.mul_lt_mul_of_pos_right h2 (Nat.two_pow_pos _)
  have h7 : 18014398509481984 * mg (rg b) ≤ mg (rg a) * 2 ^ 110 := by
    have : 18014398509481984 * mg (rg b) ≤ 18014398509481984 * 9007199254740992 := Nat.mul_le_mul_left _ (Nat.le_of_lt h1)
    have e : 18014398509481984 * 9007199254740992 ≤ 1 * 2 ^ 110 := by decide
    exact Nat.le_trans this (Nat.le_trans e h4)
  refine ⟨?_, (Nat.le_div_iff_mul_le (Nat.pos_of_ne_zero (mg_pos z0))).2 h7, Nat.lt_of_lt_of_le h6 (by decide)⟩
  exact Nat.le_trans (Nat.mul_le_mul_right _ (by decide)) h7
theorem divFF (a b : Nat) (ha : rg a < 9218868437227405312) (hb : rg b < 9218868437227405312) (h0 : rg a ≠ 0) (z0 : rg b ≠ 0) : divN a b = double.nearest (sg a != sg b) (2 * (mg (rg a) * 2 ^ 110 / mg (rg b)) + (mg (rg a) * 2 ^ 110 % mg (rg b) != 0).toNat) ((-1074 + (kx (rg a) : Int)) - (-1074 + (kx (rg b) : Int)) - 110 - 1) := by
  obtain ⟨T, hT⟩ : ∃ T, T = 1074 := ⟨_, rfl⟩
  obtain ⟨r, hr, hle, hs⟩ := div_spec T a b hT ha hb h0 z0
  have hx : (sg a ^^ sg b) = (sg a != sg b) := by cases sg a <;> cases sg b <;> rfl
  rw [hr, hx, nearest_R _ _ _ (kx (rg a) + T) (kx (rg b) + 111) (by omega)]
  refine congrArg (double.word _) ?_
  refine rung_ext hle (R_le ..) fun t ht => ?_
  rw [hs t ht, R_sticky (Nat.pos_of_ne_zero (mg_pos z0)) ht (q110_big a b h0 z0).1]
  obtain ⟨M, hM⟩ : ∃ M, M = 110 := ⟨_, rfl⟩
  rw [← hM, show kx (rg b) + 111 = kx (rg b) + (M + 1) from by omega]
  have hp := Nat.two_pow_pos (M + 1)
  have e1 : mg (rg a) * 2 ^ M * 2 ^ (kx (rg a) + T + 2) = 2 * (up (rg a) * 2 ^ T) * 2 ^ (M + 1) := by
    have x1 : mg (rg a) * 2 ^ M * 2 ^ (kx (rg a) + T + 2) = mg (rg a) * 2 ^ (kx (rg a) + T + (M + 1) + 1) := by
      rw [Nat.mul_assoc, ← Nat.pow_add, show M + (kx (rg a) + T + 2) = kx (rg a) + T + (M + 1) + 1 from by omega]
    rw [x1, Nat.pow_succ, Nat.pow_add, Nat.pow_add 2 (kx (rg a)), up_eq, Nat.mul_comm _ 2, Nat.mul_left_comm, Nat.mul_assoc 2, Nat.mul_assoc (mg (rg a)), Nat.mul_assoc (mg (rg a))]
  have e2 : (up t + up (t + 1)) * 2 ^ (kx (rg b) + (M + 1)) * mg (rg b) = (up t + up (t + 1)) * up (rg b) * 2 ^ (M + 1) := by
    rw [Nat.pow_add 2 (kx (rg b)), up_eq (rg b), Nat.mul_assoc, Nat.mul_assoc (up t + up (t + 1)), Nat.mul_right_comm, Nat.mul_comm (2 ^ kx (rg b)), Nat.mul_right_comm]
  rw [e1, e2, Nat.mul_lt_mul_right hp, Nat.mul_left_inj (Nat.pos_iff_ne_zero.1 hp)]
theorem cls (a : Nat) : isN a = true ∨ rg a = 9218868437227405312 ∨ rg a = 0 ∨ (rg a < 9218868437227405312 ∧ rg a ≠ 0) := by
  rcases Nat.lt_trichotomy (rg a) 9218868437227405312 with h | h | h
  · by_cases h0 : rg a = 0
    · exact .inr (.inr (.inl h0))
    · exact .inr (.inr (.inr ⟨h, h0⟩))
  · exact .inr (.inl h)
  · left; rw [isN_eq, decide_eq_true h]

set_option maxRecDepth 100000 in
set_option maxHeartbeats 6400000 in
theorem rmul_any (a b : Nat) (la : a < 18446744073709551616) (lb : b < 18446744073709551616) (w : World) :
    Calls Try.prog 13 #[.int .u64 (a : Int), .int .u64 (b : Int)] w fun e w' => e = .returned (.int .u64 (mulN a b : Nat)) ∧ Below w.heap.size w w' := by
  have cA := rclass_any a la
  have cB := rclass_any b lb
  have nA := negative_any a la
  have nB := negative_any b lb
  have bn := bool_neq
  have HB := hide (Below.refl w.heap.size w)
  rcases cls a with ha | ha | ha | ha
  · rcases cls b with hb | hb | hb | hb
    · skip
      rw [class_N ha] at cA
      rw [class_N hb] at cB
      rw [mul_NL ha b]
      replace cA := hide cA
      replace cB := hide cB
      replace nA := hide nA
      replace nB := hide nB
      clear ha hb la lb
      go_enter Try.func13, Try.ntmps13
      go_wp2_with fail
      refine (unhide cA _).mono ?_
      rintro e w1 ⟨rfl, rfl⟩
      go_wp2_with fail
      refine (unhide cB _).mono ?_
      rintro e w2 ⟨rfl, rfl⟩
      go_wp2
      go_ret
      exact ⟨rfl, unhide HB⟩
    · skip
      rw [class_N ha] at cA
      rw [class_inf hb] at cB
      rw [mul_NL ha b]
      replace cA := hide cA
      replace cB := hide cB
      replace nA := hide nA
      replace nB := hide nB
      clear ha hb la lb
      go_enter Try.func13, Try.ntmps13
      go_wp2_with fail
      refine (unhide cA _).mono ?_
      rintro e w1 ⟨rfl, rfl⟩
      go_wp2_with fail
      refine (unhide cB _).mono ?_
      rintro e w2 ⟨rfl, rfl⟩
      go_wp2
      go_ret
      exact ⟨rfl, unhide HB⟩
    · skip
      rw [class_N ha] at cA
      rw [class_zero hb] at cB
      rw [mul_NL ha b]
      replace cA := hide cA
      replace cB := hide cB
      replace nA := hide nA
      replace nB := hide nB
      clear ha hb la lb
      go_enter Try.func13, Try.ntmps13
      go_wp2_with fail
      refine (unhide cA _).mono ?_
      rintro e w1 ⟨rfl, rfl⟩
      go_wp2_with fail
      refine (unhide cB _).mono ?_
      rintro e w2 ⟨rfl, rfl⟩
      go_wp2
      go_ret
      exact ⟨rfl, unhide HB⟩
    · skip
      rw [class_N ha] at cA
      have kb := class_nz hb.1 hb.2
      have gb0 : (classN b == 0) = false := by rw [beq_eq_false_iff_ne]; omega
      have gb1 : (classN b == 1) = false := by rw [beq_eq_false_iff_ne]; omega
      have gb2 : (classN b == 2) = false := by rw [beq_eq_false_iff_ne]; omega
      rw [mul_NL ha b]
      generalize classN b = cb at *
      replace cA := hide cA
      replace cB := hide cB
      replace nA := hide nA
      replace nB := hide nB
      clear ha hb la lb kb
      go_enter Try.func13, Try.ntmps13
      go_wp2_with fail
      refine (unhide cA _).mono ?_
      rintro e w1 ⟨rfl, rfl⟩
      go_wp2_with fail
      refine (unhide cB _).mono ?_
      rintro e w2 ⟨rfl, rfl⟩
      go_wp2
      go_ret
      exact ⟨rfl, unhide HB⟩
  · rcases cls b with hb | hb | hb | hb
    · skip
      rw [class_inf ha] at cA
      rw [class_N hb] at cB
      rw [mul_NR a hb]
      replace cA := hide cA
      replace cB := hide cB
      replace nA := hide nA
      replace nB := hide nB
      clear ha hb la lb
      go_enter Try.func13, Try.ntmps13
      go_wp2_with fail
      refine (unhide cA _).mono ?_
      rintro e w1 ⟨rfl, rfl⟩
      go_wp2_with fail
      refine (unhide cB _).mono ?_
      rintro e w2 ⟨rfl, rfl⟩
      go_wp2
      go_ret
      exact ⟨rfl, unhide HB⟩
    · skip
      rw [class_inf ha] at cA
      rw [class_inf hb] at cB
      rw [mulII a b ha hb]
      have cS := hide (signed_any (sg a != sg b) 9218868437227405312 (by decide))
      generalize sg a = sa at *
      generalize sg b = sb at *
      generalize double.word (sa != sb) 9218868437227405312 = Z at *
      replace cA := hide cA
      replace cB := hide cB
      replace nA := hide nA
      replace nB := hide nB
      clear ha hb la lb
      go_enter Try.func13, Try.ntmps13
      go_wp2_with fail
      refine (unhide cA _).mono ?_
      rintro e w1 ⟨rfl, rfl⟩
      go_wp2_with fail
      refine (unhide cB _).mono ?_
      rintro e w2 ⟨rfl, rfl⟩
      go_wp2_with fail
      refine (unhide nA _).mono ?_
      rintro e w3 ⟨rfl, rfl⟩
      go_wp2_with fail
      refine (unhide nB _).mono ?_
      rintro e w4 ⟨rfl, rfl⟩
      go_wp2_with fail
      refine (unhide cS _).mono ?_
      rintro e w5 ⟨rfl, rfl⟩
      go_wp2
      go_ret
      exact ⟨rfl, unhide HB⟩
    · skip
      rw [class_inf ha] at cA
      rw [class_zero hb] at cB
      rw [mulIZ a b ha hb]
      replace cA := hide cA
      replace cB := hide cB
      replace nA := hide nA
      replace nB := hide nB
      clear ha hb la lb
      go_enter Try.func13, Try.ntmps13
      go_wp2_with fail
      refine (unhide cA _).mono ?_
      rintro e w1 ⟨rfl, rfl⟩
      go_wp2_with fail
      refine (unhide cB _).mono ?_
      rintro e w2 ⟨rfl, rfl⟩
      go_wp2
      go_ret
      exact ⟨rfl, unhide HB⟩
    · skip
      rw [class_inf ha] at cA
      have kb := class_nz hb.1 hb.2
      have gb0 : (classN b == 0) = false := by rw [beq_eq_false_iff_ne]; omega
      have gb1 : (classN b == 1) = false := by rw [beq_eq_false_iff_ne]; omega
      have gb2 : (classN b == 2) = false := by rw [beq_eq_false_iff_ne]; omega
      rw [mulIF a b ha hb.1 hb.2]
      have cS := hide (signed_any (sg a != sg b) 9218868437227405312 (by decide))
      generalize sg a = sa at *
      generalize sg b = sb at *
      generalize double.word (sa != sb) 9218868437227405312 = Z at *
      generalize classN b = cb at *
      replace cA := hide cA
      replace cB := hide cB
      replace nA := hide nA
      replace nB := hide nB
      clear ha hb la lb kb
      go_enter Try.func13, Try.ntmps13
      go_wp2_with fail
      refine (unhide cA _).mono ?_
      rintro e w1 ⟨rfl, rfl⟩
      go_wp2_with fail
      refine (unhide cB _).mono ?_
      rintro e w2 ⟨rfl, rfl⟩
      go_wp2_with fail
      refine (unhide nA _).mono ?_
      rintro e w3 ⟨rfl, rfl⟩
      go_wp2_with fail
      refine (unhide nB _).mono ?_
      rintro e w4 ⟨rfl, rfl⟩
      go_wp2_with fail
      refine (unhide cS _).mono ?_
      rintro e w5 ⟨rfl, rfl⟩
      go_wp2
      go_ret
      exact ⟨rfl, unhide HB⟩
  · rcases cls b with hb | hb | hb | hb
    · skip
      rw [class_zero ha] at cA
      rw [class_N hb] at cB
      rw [mul_NR a hb]
      replace cA := hide cA
      replace cB := hide cB
      replace nA := hide nA
      replace nB := hide nB
      clear ha hb la lb
      go_enter Try.func13, Try.ntmps13
      go_wp2_with fail
      refine (unhide cA _).mono ?_
      rintro e w1 ⟨rfl, rfl⟩
      go_wp2_with fail
      refine (unhide cB _).mono ?_
      rintro e w2 ⟨rfl, rfl⟩
      go_wp2
      go_ret
      exact ⟨rfl, unhide HB⟩
    · skip
      rw [class_zero ha] at cA
      rw [class_inf hb] at cB
      rw [(mul_comm' a b).trans (mulIZ b a hb ha)]
      replace cA := hide cA
      replace cB := hide cB
      replace nA := hide nA
      replace nB := hide nB
      clear ha hb la lb
      go_enter Try.func13, Try.ntmps13
      go_wp2_with fail
      refine (unhide cA _).mono ?_
      rintro e w1 ⟨rfl, rfl⟩
      go_wp2_with fail
      refine (unhide cB _).mono ?_
      rintro e w2 ⟨rfl, rfl⟩
      go_wp2
      go_ret
      exact ⟨rfl, unhide HB⟩
    · skip
      rw [class_zero ha] at cA
      rw [class_zero hb] at cB
      rw [mulZZ a b (fin_of_zero ha) (fin_of_zero hb) (.inl ha)]
      have cS := hide (signed_any (sg a != sg b) 0 (by decide))
      generalize sg a = sa at *
      generalize sg b = sb at *
      generalize double.word (sa != sb) 0 = Z at *
      replace cA := hide cA
      replace cB := hide cB
      replace nA := hide nA
      replace nB := hide nB
      clear ha hb la lb
      go_enter Try.func13, Try.ntmps13
      go_wp2_with fail
      refine (unhide cA _).mono ?_
      rintro e w1 ⟨rfl, rfl⟩
      go_wp2_with fail
      refine (unhide cB _).mono ?_
      rintro e w2 ⟨rfl, rfl⟩
      go_wp2_with fail
      refine (unhide nA _).mono ?_
      rintro e w3 ⟨rfl, rfl⟩
      go_wp2_with fail
      refine (unhide nB _).mono ?_
      rintro e w4 ⟨rfl, rfl⟩
      go_wp2_with fail
      refine (unhide cS _).mono ?_
      rintro e w5 ⟨rfl, rfl⟩
      go_wp2
      go_ret
      exact ⟨rfl, unhide HB⟩
    · skip
      rw [class_zero ha] at cA
      have kb := class_nz hb.1 hb.2
      have gb0 : (classN b == 0) = false := by rw [beq_eq_false_iff_ne]; omega
      have gb1 : (classN b == 1) = false := by rw [beq_eq_false_iff_ne]; omega
      have gb2 : (classN b == 2) = false := by rw [beq_eq_false_iff_ne]; omega
      rw [mulZZ a b (fin_of_zero ha) hb.1 (.inl ha)]
      have cS := hide (signed_any (sg a != sg b) 0 (by decide))
      generalize sg a = sa at *
      generalize sg b = sb at *
      generalize double.word (sa != sb) 0 = Z at *
      generalize classN b = cb at *
      replace cA := hide cA
      replace cB := hide cB
      replace nA := hide nA
      replace nB := hide nB
      clear ha hb la lb kb
      go_enter Try.func13, Try.ntmps13
      go_wp2_with fail
      refine (unhide cA _).mono ?_
      rintro e w1 ⟨rfl, rfl⟩
      go_wp2_with fail
      refine (unhide cB _).mono ?_
      rintro e w2 ⟨rfl, rfl⟩
      go_wp2_with fail
      refine (unhide nA _).mono ?_
      rintro e w3 ⟨rfl, rfl⟩
      go_wp2_with fail
      refine (unhide nB _).mono ?_
      rintro e w4 ⟨rfl, rfl⟩
      go_wp2_with fail
      refine (unhide cS _).mono ?_
      rintro e w5 ⟨rfl, rfl⟩
      go_wp2
      go_ret
      exact ⟨rfl, unhide HB⟩
  · rcases cls b with hb | hb | hb | hb
    · skip
      have ka := class_nz ha.1 ha.2
      have ga0 : (classN a == 0) = false := by rw [beq_eq_false_iff_ne]; omega
      have ga1 : (classN a == 1) = false := by rw [beq_eq_false_iff_ne]; omega
      have ga2 : (classN a == 2) = false := by rw [beq_eq_false_iff_ne]; omega
      rw [class_N hb] at cB
      rw [mul_NR a hb]
      generalize classN a = ca at *
      replace cA := hide cA
      replace cB := hide cB
      replace nA := hide nA
      replace nB := hide nB
      clear ha hb la lb ka
      go_enter Try.func13, Try.ntmps13
      go_wp2_with fail
      refine (unhide cA _).mono ?_
      rintro e w1 ⟨rfl, rfl⟩
      go_wp2_with fail
      refine (unhide cB _).mono ?_
      rintro e w2 ⟨rfl, rfl⟩
      go_wp2
      go_ret
      exact ⟨rfl, unhide HB⟩
    · skip
      have ka := class_nz ha.1 ha.2
      have ga0 : (classN a == 0) = false := by rw [beq_eq_false_iff_ne]; omega
      have ga1 : (classN a == 1) = false := by rw [beq_eq_false_iff_ne]; omega
      have ga2 : (classN a == 2) = false := by rw [beq_eq_false_iff_ne]; omega
      rw [class_inf hb] at cB
      rw [(mul_comm' a b).trans ((mulIF b a hb ha.1 ha.2).trans (by rw [ne_comm]))]
      have cS := hide (signed_any (sg a != sg b) 9218868437227405312 (by decide))
      generalize sg a = sa at *
      generalize sg b = sb at *
      generalize double.word (sa != sb) 9218868437227405312 = Z at *
      generalize classN a = ca at *
      replace cA := hide cA
      replace cB := hide cB
      replace nA := hide nA
      replace nB := hide nB
      clear ha hb la lb ka
      go_enter Try.func13, Try.ntmps13
      go_wp2_with fail
      refine (unhide cA _).mono ?_
      rintro e w1 ⟨rfl, rfl⟩
      go_wp2_with fail
      refine (unhide cB _).mono ?_
      rintro e w2 ⟨rfl, rfl⟩
      go_wp2_with fail
      refine (unhide nA _).mono ?_
      rintro e w3 ⟨rfl, rfl⟩
      go_wp2_with fail
      refine (unhide nB _).mono ?_
      rintro e w4 ⟨rfl, rfl⟩
      go_wp2_with fail
      refine (unhide cS _).mono ?_
      rintro e w5 ⟨rfl, rfl⟩
      go_wp2
      go_ret
      exact ⟨rfl, unhide HB⟩
    · skip
      have ka := class_nz ha.1 ha.2
      have ga0 : (classN a == 0) = false := by rw [beq_eq_false_iff_ne]; omega
      have ga1 : (classN a == 1) = false := by rw [beq_eq_false_iff_ne]; omega
      have ga2 : (classN a == 2) = false := by rw [beq_eq_false_iff_ne]; omega
      rw [class_zero hb] at cB
      rw [mulZZ a b ha.1 (fin_of_zero hb) (.inr hb)]
      have cS := hide (signed_any (sg a != sg b) 0 (by decide))
      generalize sg a = sa at *
      generalize sg b = sb at *
      generalize double.word (sa != sb) 0 = Z at *
      generalize classN a = ca at *
      replace cA := hide cA
      replace cB := hide cB
      replace nA := hide nA
      replace nB := hide nB
      clear ha hb la lb ka
      go_enter Try.func13, Try.ntmps13
      go_wp2_with fail
      refine (unhide cA _).mono ?_
      rintro e w1 ⟨rfl, rfl⟩
      go_wp2_with fail
      refine (unhide cB _).mono ?_
      rintro e w2 ⟨rfl, rfl⟩
      go_wp2_with fail
      refine (unhide nA _).mono ?_
      rintro e w3 ⟨rfl, rfl⟩
      go_wp2_with fail
      refine (unhide nB _).mono ?_
      rintro e w4 ⟨rfl, rfl⟩
      go_wp2_with fail
      refine (unhide cS _).mono ?_
      rintro e w5 ⟨rfl, rfl⟩
      go_wp2
      go_ret
      exact ⟨rfl, unhide HB⟩
    · skip
      have ka := class_nz ha.1 ha.2
      have ga0 : (classN a == 0) = false := by rw [beq_eq_false_iff_ne]; omega
      have ga1 : (classN a == 1) = false := by rw [beq_eq_false_iff_ne]; omega
      have ga2 : (classN a == 2) = false := by rw [beq_eq_false_iff_ne]; omega
      have kb := class_nz hb.1 hb.2
      have gb0 : (classN b == 0) = false := by rw [beq_eq_false_iff_ne]; omega
      have gb1 : (classN b == 1) = false := by rw [beq_eq_false_iff_ne]; omega
      have gb2 : (classN b == 2) = false := by rw [beq_eq_false_iff_ne]; omega
      have hE := mulFF a b ha.1 hb.1
      have cP := parts_any a la ha.1
      have cQ := parts_any b lb hb.1
      have m1 := mg_lt (rg a)
      have m2 := mg_lt (rg b)
      have z1 := mg_pos ha.2
      have z2 := mg_pos hb.2
      have k1 := kx_lt ha.1
      have k2 := kx_lt hb.1
      rw [hE]
      generalize classN a = ca at *
      generalize classN b = cb at *
      generalize sg a = sa at *
      generalize sg b = sb at *
      generalize mg (rg a) = ma at *
      generalize mg (rg b) = mb at *
      obtain ⟨EA, hEA⟩ : ∃ E : Int, -1074 + (kx (rg a) : Int) = E := ⟨_, rfl⟩
      obtain ⟨EB, hEB⟩ : ∃ E : Int, -1074 + (kx (rg b) : Int) = E := ⟨_, rfl⟩
      rw [hEA] at cP ⊢
      rw [hEB] at cQ ⊢
      have r1 : -1074 ≤ EA ∧ EA ≤ 971 := by omega
      have r2 : -1074 ≤ EB ∧ EB ≤ 971 := by omega
      have x1 : ma < 18446744073709551616 := Nat.lt_trans m1 (by decide)
      have x2 : mb < 18446744073709551616 := Nat.lt_trans m2 (by decide)
      have y1 : Hid (ma < 4294967296 ^ 1000) := B_mono (a := 2) (b := 1000) (Nat.lt_trans m1 (by decide)) (by decide)
      have y2 : Hid (mb < 4294967296 ^ 1000) := B_mono (a := 2) (b := 1000) (Nat.lt_trans m2 (by decide)) (by decide)
      have y3 : Hid (ma * mb < 4294967296 ^ 1000) := B_mono (a := 4) (b := 1000) (Nat.lt_trans (Nat.mul_lt_mul'' m1 m2) (by decide)) (by decide)
      have z3 : Hid (ma * mb ≠ 0) := Nat.mul_ne_zero z1 z2
      replace cP := hide cP
      replace cQ := hide cQ
      replace cA := hide cA
      replace cB := hide cB
      replace nA := hide nA
      replace nB := hide nB
      clear hE hEA hEB k1 k2 m1 m2 z1 z2 ha hb la lb ka kb
      go_enter Try.func13, Try.ntmps13
      go_wp2_with fail
      refine (unhide cA _).mono ?_
      rintro e w1 ⟨rfl, rfl⟩
      go_wp2_with fail
      refine (unhide cB _).mono ?_
      rintro e w1 ⟨rfl, rfl⟩
      go_wp2_with fail
      refine (unhide nA _).mono ?_
      rintro e w1 ⟨rfl, rfl⟩
      go_wp2_with fail
      refine (unhide nB _).mono ?_
      rintro e w1 ⟨rfl, rfl⟩
      go_wp2_with fail
      refine (unhide cP _).mono ?_
      rintro e w1 ⟨rfl, rfl⟩
      go_wp2_with fail
      refine (unhide cQ _).mono ?_
      rintro e w1 ⟨rfl, rfl⟩
      go_wp2_with fail
      refine (list_any ma _ x1).mono ?_
      rintro e w2 ⟨v2, rfl, hL2, hB2⟩
      have HL2 := hide hL2
      replace HB := hide ((unhide HB).trans (hB2.mono (unhide HB).size))
      clear hL2 hB2
      go_wp2_with fail
      refine (list_any mb _ x2).mono ?_
      rintro e w3 ⟨v3, rfl, hL3, hB3⟩
      have HL3 := hide hL3
      replace HL2 := hide ((unhide HL2).below hB3)
      replace HB := hide ((unhide HB).trans (hB3.mono (unhide HB).size))
      clear hL3 hB3
      go_wp2_with fail
      refine (times_any v2 v3 ma mb _ (unhide HL2) (unhide HL3) (unhide y1) (unhide y2)).mono ?_
      rintro e w4 ⟨v4, rfl, hL4, hB4⟩
      have HL4 := hide hL4
      replace HB := hide ((unhide HB).trans (hB4.mono (unhide HB).size))
      clear hL4 hB4 HL2 HL3
      go_wp2_with fail
      refine (round_any (sa != sb) v4 (ma * mb) (EA + EB) false _ (unhide HL4) (unhide z3) (unhide y3) (by omega) (by omega) (by intro h; cases h)).mono ?_
      rintro e w5 ⟨rfl, hB5⟩
      replace HB := hide ((unhide HB).trans (hB5.mono (unhide HB).size))
      clear hB5
      go_wp2
      go_ret
      exact ⟨rfl, unhide HB⟩

set_option maxRecDepth 100000 in
set_option maxHeartbeats 6400000 in
theorem rdiv_any (a b : Nat) (la : a < 18446744073709551616) (lb : b < 18446744073709551616) (w : World) :
    Calls Try.prog 15 #[.int .u64 (a : Int), .int .u64 (b : Int)] w fun e w' => e = .returned (.int .u64 (divN a b : Nat)) ∧ Below w.heap.size w w' := by
  have cA := rclass_any a la
  have cB := rclass_any b lb
  have nA := negative_any a la
  have nB := negative_any b lb
  have bn := bool_neq
  have HB := hide (Below.refl w.heap.size w)
  rcases cls a with ha | ha | ha | ha
  · rcases cls b with hb | hb | hb | hb
    · skip
      rw [class_N ha] at cA
      rw [class_N hb] at cB
      rw [div_NL ha b]
      replace cA := hide cA
      replace cB := hide cB
      replace nA := hide nA
      replace nB := hide nB
      clear ha hb la lb
      go_enter Try.func15, Try.ntmps15
      go_wp2_with fail
      refine (unhide cA _).mono ?_
      rintro e w1 ⟨rfl, rfl⟩
      go_wp2_with fail
      refine (unhide cB _).mono ?_
      rintro e w2 ⟨rfl, rfl⟩
      go_wp2
      go_ret
      exact ⟨rfl, unhide HB⟩
    · skip
      rw [class_N ha] at cA
      rw [class_inf hb] at cB
      rw [div_NL ha b]
      replace cA := hide cA
      replace cB := hide cB
      replace nA := hide nA
      replace nB := hide nB
      clear ha hb la lb
      go_enter Try.func15, Try.ntmps15
      go_wp2_with fail
      refine (unhide cA _).mono ?_
      rintro e w1 ⟨rfl, rfl⟩
      go_wp2_with fail
      refine (unhide cB _).mono ?_
      rintro e w2 ⟨rfl, rfl⟩
      go_wp2
      go_ret
      exact ⟨rfl, unhide HB⟩
    · skip
      rw [class_N ha] at cA
      rw [class_zero hb] at cB
      rw [div_NL ha b]
      replace cA := hide cA
      replace cB := hide cB
      replace nA := hide nA
      replace nB := hide nB
      clear ha hb la lb
      go_enter Try.func15, Try.ntmps15
      go_wp2_with fail
      refine (unhide cA _).mono ?_
      rintro e w1 ⟨rfl, rfl⟩
      go_wp2_with fail
      refine (unhide cB _).mono ?_
      rintro e w2 ⟨rfl, rfl⟩
      go_wp2
      go_ret
      exact ⟨rfl, unhide HB⟩
    · skip
      rw [class_N ha] at cA
      have kb := class_nz hb.1 hb.2
      have gb0 : (classN b == 0) = false := by rw [beq_eq_false_iff_ne]; omega
      have gb1 : (classN b == 1) = false := by rw [beq_eq_false_iff_ne]; omega
      have gb2 : (classN b == 2) = false := by rw [beq_eq_false_iff_ne]; omega
      rw [div_NL ha b]
      generalize classN b = cb at *
      replace cA := hide cA
      replace cB := hide cB
      replace nA := hide nA
      replace nB := hide nB
      clear ha hb la lb kb
      go_enter Try.func15, Try.ntmps15
      go_wp2_with fail
      refine (unhide cA _).mono ?_
      rintro e w1 ⟨rfl, rfl⟩
      go_wp2_with fail
      refine (unhide cB _).mono ?_
      rintro e w2 ⟨rfl, rfl⟩
      go_wp2
      go_ret
      exact ⟨rfl, unhide HB⟩
  · rcases cls b with hb | hb | hb | hb
    · skip
      rw [class_inf ha] at cA
      rw [class_N hb] at cB
      rw [div_NR a hb]
      replace cA := hide cA
      replace cB := hide cB
      replace nA := hide nA
      replace nB := hide nB
      clear ha hb la lb
      go_enter Try.func15, Try.ntmps15
      go_wp2_with fail
      refine (unhide cA _).mono ?_
      rintro e w1 ⟨rfl, rfl⟩
      go_wp2_with fail
      refine (unhide cB _).mono ?_
      rintro e w2 ⟨rfl, rfl⟩
      go_wp2
      go_ret
      exact ⟨rfl, unhide HB⟩
    · skip
      rw [class_inf ha] at cA
      rw [class_inf hb] at cB
      rw [divII a b ha hb]
      replace cA := hide cA
      replace cB := hide cB
      replace nA := hide nA
      replace nB := hide nB
      clear ha hb la lb
      go_enter Try.func15, Try.ntmps15
      go_wp2_with fail
      refine (unhide cA _).mono ?_
      rintro e w1 ⟨rfl, rfl⟩
      go_wp2_with fail
      refine (unhide cB _).mono ?_
      rintro e w2 ⟨rfl, rfl⟩
      go_wp2
      go_ret
      exact ⟨rfl, unhide HB⟩
    · skip
      rw [class_inf ha] at cA
      rw [class_zero hb] at cB
      rw [divIF a b ha (fin_of_zero hb)]
      have cS := hide (signed_any (sg a != sg b) 9218868437227405312 (by decide))
      generalize sg a = sa at *
      generalize sg b = sb at *
      generalize double.word (sa != sb) 9218868437227405312 = Z at *
      replace cA := hide cA
      replace cB := hide cB
      replace nA := hide nA
      replace nB := hide nB
      clear ha hb la lb
      go_enter Try.func15, Try.ntmps15
      go_wp2_with fail
      refine (unhide cA _).mono ?_
      rintro e w1 ⟨rfl, rfl⟩
      go_wp2_with fail
      refine (unhide cB _).mono ?_
      rintro e w2 ⟨rfl, rfl⟩
      go_wp2_with fail
      refine (unhide nA _).mono ?_
      rintro e w3 ⟨rfl, rfl⟩
      go_wp2_with fail
      refine (unhide nB _).mono ?_
      rintro e w4 ⟨rfl, rfl⟩
      go_wp2_with fail
      refine (unhide cS _).mono ?_
      rintro e w5 ⟨rfl, rfl⟩
      go_wp2
      go_ret
      exact ⟨rfl, unhide HB⟩
    · skip
      rw [class_inf ha] at cA
      have kb := class_nz hb.1 hb.2
      have gb0 : (classN b == 0) = false := by rw [beq_eq_false_iff_ne]; omega
      have gb1 : (classN b == 1) = false := by rw [beq_eq_false_iff_ne]; omega
      have gb2 : (classN b == 2) = false := by rw [beq_eq_false_iff_ne]; omega
      rw [divIF a b ha hb.1]
      have cS := hide (signed_any (sg a != sg b) 9218868437227405312 (by decide))
      generalize sg a = sa at *
      generalize sg b = sb at *
      generalize double.word (sa != sb) 9218868437227405312 = Z at *
      generalize classN b = cb at *
      replace cA := hide cA
      replace cB := hide cB
      replace nA := hide nA
      replace nB := hide nB
      clear ha hb la lb kb
      go_enter Try.func15, Try.ntmps15
      go_wp2_with fail
      refine (unhide cA _).mono ?_
      rintro e w1 ⟨rfl, rfl⟩
      go_wp2_with fail
      refine (unhide cB _).mono ?_
      rintro e w2 ⟨rfl, rfl⟩
      go_wp2_with fail
      refine (unhide nA _).mono ?_
      rintro e w3 ⟨rfl, rfl⟩
      go_wp2_with fail
      refine (unhide nB _).mono ?_
      rintro e w4 ⟨rfl, rfl⟩
      go_wp2_with fail
      refine (unhide cS _).mono ?_
      rintro e w5 ⟨rfl, rfl⟩
      go_wp2
      go_ret
      exact ⟨rfl, unhide HB⟩
  · rcases cls b with hb | hb | hb | hb
    · skip
      rw [class_zero ha] at cA
      rw [class_N hb] at cB
      rw [div_NR a hb]
      replace cA := hide cA
      replace cB := hide cB
      replace nA := hide nA
      replace nB := hide nB
      clear ha hb la lb
      go_enter Try.func15, Try.ntmps15
      go_wp2_with fail
      refine (unhide cA _).mono ?_
      rintro e w1 ⟨rfl, rfl⟩
      go_wp2_with fail
      refine (unhide cB _).mono ?_
      rintro e w2 ⟨rfl, rfl⟩
      go_wp2
      go_ret
      exact ⟨rfl, unhide HB⟩
    · skip
      rw [class_zero ha] at cA
      rw [class_inf hb] at cB
      rw [divFI a b (fin_of_zero ha) hb]
      have cS := hide (signed_any (sg a != sg b) 0 (by decide))
      generalize sg a = sa at *
      generalize sg b = sb at *
      generalize double.word (sa != sb) 0 = Z at *
      replace cA := hide cA
      replace cB := hide cB
      replace nA := hide nA
      replace nB := hide nB
      clear ha hb la lb
      go_enter Try.func15, Try.ntmps15
      go_wp2_with fail
      refine (unhide cA _).mono ?_
      rintro e w1 ⟨rfl, rfl⟩
      go_wp2_with fail
      refine (unhide cB _).mono ?_
      rintro e w2 ⟨rfl, rfl⟩
      go_wp2_with fail
      refine (unhide nA _).mono ?_
      rintro e w3 ⟨rfl, rfl⟩
      go_wp2_with fail
      refine (unhide nB _).mono ?_
      rintro e w4 ⟨rfl, rfl⟩
      go_wp2_with fail
      refine (unhide cS _).mono ?_
      rintro e w5 ⟨rfl, rfl⟩
      go_wp2
      go_ret
      exact ⟨rfl, unhide HB⟩
    · skip
      rw [class_zero ha] at cA
      rw [class_zero hb] at cB
      rw [divZZ a b ha hb]
      replace cA := hide cA
      replace cB := hide cB
      replace nA := hide nA
      replace nB := hide nB
      clear ha hb la lb
      go_enter Try.func15, Try.ntmps15
      go_wp2_with fail
      refine (unhide cA _).mono ?_
      rintro e w1 ⟨rfl, rfl⟩
      go_wp2_with fail
      refine (unhide cB _).mono ?_
      rintro e w2 ⟨rfl, rfl⟩
      go_wp2
      go_ret
      exact ⟨rfl, unhide HB⟩
    · skip
      rw [class_zero ha] at cA
      have kb := class_nz hb.1 hb.2
      have gb0 : (classN b == 0) = false := by rw [beq_eq_false_iff_ne]; omega
      have gb1 : (classN b == 1) = false := by rw [beq_eq_false_iff_ne]; omega
      have gb2 : (classN b == 2) = false := by rw [beq_eq_false_iff_ne]; omega
      rw [divZF a b ha hb.1 hb.2]
      have cS := hide (signed_any (sg a != sg b) 0 (by decide))
      generalize sg a = sa at *
      generalize sg b = sb at *
      generalize double.word (sa != sb) 0 = Z at *
      generalize classN b = cb at *
      replace cA := hide cA
      replace cB := hide cB
      replace nA := hide nA
      replace nB := hide nB
      clear ha hb la lb kb
      go_enter Try.func15, Try.ntmps15
      go_wp2_with fail
      refine (unhide cA _).mono ?_
      rintro e w1 ⟨rfl, rfl⟩
      go_wp2_with fail
      refine (unhide cB _).mono ?_
      rintro e w2 ⟨rfl, rfl⟩
      go_wp2_with fail
      refine (unhide nA _).mono ?_
      rintro e w3 ⟨rfl, rfl⟩
      go_wp2_with fail
      refine (unhide nB _).mono ?_
      rintro e w4 ⟨rfl, rfl⟩
      go_wp2_with fail
      refine (unhide cS _).mono ?_
      rintro e w5 ⟨rfl, rfl⟩
      go_wp2
      go_ret
      exact ⟨rfl, unhide HB⟩
  · rcases cls b with hb | hb | hb | hb
    · skip
      have ka := class_nz ha.1 ha.2
      have ga0 : (classN a == 0) = false := by rw [beq_eq_false_iff_ne]; omega
      have ga1 : (classN a == 1) = false := by rw [beq_eq_false_iff_ne]; omega
      have ga2 : (classN a == 2) = false := by rw [beq_eq_false_iff_ne]; omega
      rw [class_N hb] at cB
      rw [div_NR a hb]
      generalize classN a = ca at *
      replace cA := hide cA
      replace cB := hide cB
      replace nA := hide nA
      replace nB := hide nB
      clear ha hb la lb ka
      go_enter Try.func15, Try.ntmps15
      go_wp2_with fail
      refine (unhide cA _).mono ?_
      rintro e w1 ⟨rfl, rfl⟩
      go_wp2_with fail
      refine (unhide cB _).mono ?_
      rintro e w2 ⟨rfl, rfl⟩
      go_wp2
      go_ret
      exact ⟨rfl, unhide HB⟩
    · skip
      have ka := class_nz ha.1 ha.2
      have ga0 : (classN a == 0) = false := by rw [beq_eq_false_iff_ne]; omega
      have ga1 : (classN a == 1) = false := by rw [beq_eq_false_iff_ne]; omega
      have ga2 : (classN a == 2) = false := by rw [beq_eq_false_iff_ne]; omega
      rw [class_inf hb] at cB
      rw [divFI a b ha.1 hb]
      have cS := hide (signed_any (sg a != sg b) 0 (by decide))
      generalize sg a = sa at *
      generalize sg b = sb at *
      generalize double.word (sa != sb) 0 = Z at *
      generalize classN a = ca at *
      replace cA := hide cA
      replace cB := hide cB
      replace nA := hide nA
      replace nB := hide nB
      clear ha hb la lb ka
      go_enter Try.func15, Try.ntmps15
      go_wp2_with fail
      refine (unhide cA _).mono ?_
      rintro e w1 ⟨rfl, rfl⟩
      go_wp2_with fail
      refine (unhide cB _).mono ?_
      rintro e w2 ⟨rfl, rfl⟩
      go_wp2_with fail
      refine (unhide nA _).mono ?_
      rintro e w3 ⟨rfl, rfl⟩
      go_wp2_with fail
      refine (unhide nB _).mono ?_
      rintro e w4 ⟨rfl, rfl⟩
      go_wp2_with fail
      refine (unhide cS _).mono ?_
      rintro e w5 ⟨rfl, rfl⟩
      go_wp2
      go_ret
      exact ⟨rfl, unhide HB⟩
    · skip
      have ka := class_nz ha.1 ha.2
      have ga0 : (classN a == 0) = false := by rw [beq_eq_false_iff_ne]; omega
      have ga1 : (classN a == 1) = false := by rw [beq_eq_false_iff_ne]; omega
      have ga2 : (classN a == 2) = false := by rw [beq_eq_false_iff_ne]; omega
      rw [class_zero hb] at cB
      rw [divFZ a b ha.1 ha.2 hb]
      have cS := hide (signed_any (sg a != sg b) 9218868437227405312 (by decide))
      generalize sg a = sa at *
      generalize sg b = sb at *
      generalize double.word (sa != sb) 9218868437227405312 = Z at *
      generalize classN a = ca at *
      replace cA := hide cA
      replace cB := hide cB
      replace nA := hide nA
      replace nB := hide nB
      clear ha hb la lb ka
      go_enter Try.func15, Try.ntmps15
      go_wp2_with fail
      refine (unhide cA _).mono ?_
      rintro e w1 ⟨rfl, rfl⟩
      go_wp2_with fail
      refine (unhide cB _).mono ?_
      rintro e w2 ⟨rfl, rfl⟩
      go_wp2_with fail
      refine (unhide nA _).mono ?_
      rintro e w3 ⟨rfl, rfl⟩
      go_wp2_with fail
      refine (unhide nB _).mono ?_
      rintro e w4 ⟨rfl, rfl⟩
      go_wp2_with fail
      refine (unhide cS _).mono ?_
      rintro e w5 ⟨rfl, rfl⟩
      go_wp2
      go_ret
      exact ⟨rfl, unhide HB⟩
    · skip
      have ka := class_nz ha.1 ha.2
      have ga0 : (classN a == 0) = false := by rw [beq_eq_false_iff_ne]; omega
      have ga1 : (classN a == 1) = false := by rw [beq_eq_false_iff_ne]; omega
      have ga2 : (classN a == 2) = false := by rw [beq_eq_false_iff_ne]; omega
      have kb := class_nz hb.1 hb.2
      have gb0 : (classN b == 0) = false := by rw [beq_eq_false_iff_ne]; omega
      have gb1 : (classN b == 1) = false := by rw [beq_eq_false_iff_ne]; omega
      have gb2 : (classN b == 2) = false := by rw [beq_eq_false_iff_ne]; omega
      have hE := divFF a b ha.1 hb.1 ha.2 hb.2
      obtain ⟨_, q2, q3⟩ := q110_big a b ha.2 hb.2
      have cP := parts_any a la ha.1
      have cQ := parts_any b lb hb.1
      have m1 := mg_lt (rg a)
      have m2 := mg_lt (rg b)
      have z2 := mg_pos hb.2
      have k1 := kx_lt ha.1
      have k2 := kx_lt hb.1
      rw [hE]
      generalize classN a = ca at *
      generalize classN b = cb at *
      generalize sg a = sa at *
      generalize sg b = sb at *
      generalize mg (rg a) = ma at *
      generalize mg (rg b) = mb at *
      obtain ⟨EA, hEA⟩ : ∃ E : Int, -1074 + (kx (rg a) : Int) = E := ⟨_, rfl⟩
      obtain ⟨EB, hEB⟩ : ∃ E : Int, -1074 + (kx (rg b) : Int) = E := ⟨_, rfl⟩
      rw [hEA] at cP ⊢
      rw [hEB] at cQ ⊢
      have r1 : -1074 ≤ EA ∧ EA ≤ 971 := by omega
      have r2 : -1074 ≤ EB ∧ EB ≤ 971 := by omega
      have x1 : ma < 18446744073709551616 := Nat.lt_trans m1 (by decide)
      have x2 : mb < 18446744073709551616 := Nat.lt_trans m2 (by decide)
      have y1 : Hid (ma < 4294967296 ^ 1000) := B_mono (a := 2) (b := 1000) (Nat.lt_trans m1 (by decide)) (by decide)
      have y2 : Hid (mb < 4294967296 ^ 500) := B_mono (a := 2) (b := 500) (Nat.lt_trans m2 (by decide)) (by decide)
      obtain ⟨X, hX0⟩ : ∃ X, ma * 2 ^ 110 = X := ⟨_, rfl⟩
      rw [hX0] at q2 q3 ⊢
      have hX := hide hX0
      clear hX0
      obtain ⟨Z, hZ0⟩ : ∃ Z, double.nearest (sa != sb) (2 * (X / mb) + (X % mb != 0).toNat) (EA - EB - 110 - 1) = Z := ⟨_, rfl⟩
      rw [hZ0]
      have hZ := hide hZ0
      clear hZ0
      have y3 : Hid (X < 4294967296 ^ 500) := pow_lt_B (k := 163) (m := 500) q3 (by decide)
      have y4 : Hid (X / mb < 4294967296 ^ 1000) := B_mono (a := 6) (b := 1000) (Nat.lt_of_le_of_lt (Nat.div_le_self _ _) (Nat.lt_of_lt_of_le q3 (by decide))) (by decide)
      have z3 : Hid (X / mb ≠ 0) := by unfold Hid; omega
      have z4 : Hid (18014398509481984 ≤ X / mb) := q2
      have z5 : Hid (0 < mb) := by unfold Hid; omega
      replace cP := hide cP
      replace cQ := hide cQ
      replace cA := hide cA
      replace cB := hide cB
      replace nA := hide nA
      replace nB := hide nB
      clear hE hEA hEB k1 k2 m1 m2 z2 ha hb la lb ka kb q2 q3
      go_enter Try.func15, Try.ntmps15
      go_wp2_with fail
      refine (unhide cA _).mono ?_
      rintro e w1 ⟨rfl, rfl⟩
      go_wp2_with fail
      refine (unhide cB _).mono ?_
      rintro e w1 ⟨rfl, rfl⟩
      go_wp2_with fail
      refine (unhide nA _).mono ?_
      rintro e w1 ⟨rfl, rfl⟩
      go_wp2_with fail
      refine (unhide nB _).mono ?_
      rintro e w1 ⟨rfl, rfl⟩
      go_wp2_with fail
      refine (unhide cP _).mono ?_
      rintro e w1 ⟨rfl, rfl⟩
      go_wp2_with fail
      refine (unhide cQ _).mono ?_
      rintro e w1 ⟨rfl, rfl⟩
      go_wp2_with fail
      refine (list_any ma _ x1).mono ?_
      rintro e w2 ⟨v2, rfl, hL2, hB2⟩
      have HL2 := hide hL2
      replace HB := hide ((unhide HB).trans (hB2.mono (unhide HB).size))
      clear hL2 hB2
      go_wp2_with fail
      refine (up_any v2 ma 110 _ (unhide HL2) (unhide y1) (by decide)).mono ?_
      rintro e w3 ⟨v3, rfl, hL3, hB3⟩
      have HL3 : Hid (Ls w3 v3 X) := by unfold Hid; rw [← unhide hX]; exact hL3
      replace HB := hide ((unhide HB).trans (hB3.mono (unhide HB).size))
      clear hL3 hB3 HL2
      go_wp2_with fail
      refine (list_any mb _ x2).mono ?_
      rintro e w4 ⟨v4, rfl, hL4, hB4⟩
      have HL4 := hide hL4
      replace HL3 := hide ((unhide HL3).below hB4)
      replace HB := hide ((unhide HB).trans (hB4.mono (unhide HB).size))
      clear hL4 hB4
      go_wp2_with fail
      refine (over_any v3 v4 X mb _ (unhide HL3) (unhide HL4) (unhide y3) (unhide y2) (unhide z5)).mono ?_
      rintro e w5 ⟨vq, vr, rfl, hLq, hLr, hB5⟩
      have HLq := hide hLq
      obtain ⟨rb, rk, rc, rfl, hrk, _, _⟩ := hLr.len
      have hbne : (X % mb != 0) = decide (0 < rk) := by
        by_cases h : X % mb = 0
        · rw [h, hrk.2 h]; rfl
        · have : rk ≠ 0 := fun h2 => h (hrk.1 h2)
          rw [bne_iff_ne.2 h, decide_eq_true (by omega)]
      replace HB := hide ((unhide HB).trans (hB5.mono (unhide HB).size))
      have cR := hide (round_any (sa != sb) vq (X / mb) (EA - EB - 110) (X % mb != 0) _ (unhide HLq) (unhide z3) (unhide y4) (by omega) (by omega) (fun _ => unhide z4))
      rw [unhide hZ] at cR
      rw [hbne] at cR
      clear hLq hLr hB5 hrk hbne HL3 HL4
      by_cases hk : 0 < rk
      · rw [decide_eq_true hk] at cR
        have hk2 : (0 : Int) < (rk : Int) := by omega
        go_wp2_with fail
        refine (unhide cR).mono ?_
        rintro e w6 ⟨rfl, hB6⟩
        replace HB := hide ((unhide HB).trans (hB6.mono (unhide HB).size))
        clear hB6
        go_wp2
        go_ret
        exact ⟨rfl, unhide HB⟩
      · rw [decide_eq_false hk] at cR
        obtain rfl : rk = 0 := by omega
        clear hk
        go_wp2_with fail
        refine (unhide cR).mono ?_
        rintro e w6 ⟨rfl, hB6⟩
        replace HB := hide ((unhide HB).trans (hB6.mono (unhide HB).size))
        clear hB6
        go_wp2
        go_ret
        exact ⟨rfl, unhide HB⟩

set_option maxRecDepth 100000 in
theorem mulsLaw (a b : Nat) (w : World) (ha : a < 18446744073709551616) (hb : b < 18446744073709551616) :
    Calls Try.prog 4 #[.int .u64 (a : Int), .int .u64 (b : Int)] w fun e w' => e = .returned (.bool true) ∧ Below w.heap.size w w' := by
  have c1 := hide (mul_any a b)
  have c2 := hide (rmul_any a b ha hb)
  have c3 := hide (div_any a b)
  have c4 := hide (rdiv_any a b ha hb)
  have HB := hide (Below.refl w.heap.size w)
  generalize mulN a b = s at *
  generalize divN a b = d at *
  clear ha hb
  go_enter Try.func4, Try.ntmps4
  go_wp2_with fail
  refine (unhide c1 _).mono ?_
  rintro e w1 ⟨rfl, hb1⟩
  replace HB := hide ((unhide HB).trans (hb1.mono (unhide HB).size))
  clear hb1
  go_wp2_with fail
  refine (unhide c2 _).mono ?_
  rintro e w2 ⟨rfl, hb2⟩
  replace HB := hide ((unhide HB).trans (hb2.mono (unhide HB).size))
  clear hb2
  go_wp2_with fail
  refine (unhide c3 _).mono ?_
  rintro e w3 ⟨rfl, hb3⟩
  replace HB := hide ((unhide HB).trans (hb3.mono (unhide HB).size))
  clear hb3
  go_wp2_with fail
  refine (unhide c4 _).mono ?_
  rintro e w4 ⟨rfl, hb4⟩
  replace HB := hide ((unhide HB).trans (hb4.mono (unhide HB).size))
  clear hb4
  go_wp2
  go_ret
  exact ⟨rfl, unhide HB⟩
end Go.Proofs.Ytnikbaibchgmnaa
