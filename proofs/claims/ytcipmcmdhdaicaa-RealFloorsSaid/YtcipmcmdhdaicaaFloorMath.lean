/-
  RealFloors: the law.
-/
import Derived.Test.YtcipmcmdhdaicaaWholeLaw
namespace Go.Proofs.Ytcipmcmdhdaicaa
open Go.RowKit Ieee

theorem key_lt_S (a b : Nat) (ha : a < 18446744073709551616) (hb : b < 18446744073709551616) : keyN a < keyN b ↔ S a < S b := by
  rw [key_S a ha, key_S b hb]
  unfold S
  have h0 : ∀ z, up z = 0 ↔ z = 0 := fun z => ⟨fun h => up_inj (h.trans up_zero.symm), fun h => by rw [h]; rfl⟩
  have h1 := h0 (rg a)
  have h2 := h0 (rg b)
  have h3 := @up_lt_iff (rg a) (rg b)
  have h4 := @up_lt_iff (rg b) (rg a)
  cases sg a <;> cases sg b <;> simp <;> omega
theorem num1_eq : 4607182418800017408 = fromN 1 := by decide +kernel
/-- What is asked of a small number's floor. -/
structure Flo (T a : Nat) : Prop where
  lt : floorN a < 18446744073709551616
  again : floorN (floorN a) = floorN a
  notN : isN (floorN a) = false
  low : keyN (floorN a) ≤ keyN a
  high : keyN a < keyN (addN (floorN a) 4607182418800017408)
  to : ∃ n m : Int, toN T (floorN a) = (n, true) ∧ toN T a = (m, true) ∧ fromN n % 9223372036854775808 = floorN a % 9223372036854775808 ∧ -9223372036854775808 ≤ n ∧ n < 9223372036854775807 ∧ (a < 9223372036854775808 → m = n) ∧ (¬ a < 9223372036854775808 → (floorN a = a ∧ m = n) ∨ (floorN a ≠ a ∧ m = n + 1))
theorem flo_all (T a : Nat) (hT : T = 1074) (ha : a < 18446744073709551616) (hs : rg a < 4841369599423283200) : Flo T a := by
  have hp := Nat.two_pow_pos T
  have hK : up 4841369599423283200 = 4503599627370496 * 2 ^ T := by
    rw [up_eq, show mg 4841369599423283200 = 4503599627370496 from by decide, show kx 4841369599423283200 = T from by rw [hT]; decide]
  have hup := up_lt hs
  rw [hK] at hup
  have hq : up (rg a) / 2 ^ T < 4503599627370496 := (Nat.div_lt_iff_lt_mul hp).2 hup
  have hb : (sg a && (up (rg a) % 2 ^ T != 0)).toNat ≤ 1 := Bool.toNat_le _
  have hFl : flo T a = up (rg a) / 2 ^ T + (sg a && (up (rg a) % 2 ^ T != 0)).toNat := rfl
  obtain ⟨L, hL⟩ : ∃ L, flo T a = L := ⟨_, rfl⟩
  have hL2 : L ≤ 4503599627370496 := by omega
  obtain ⟨r, hr, hrl⟩ := rep_whole T hT L (by omega)
  have hf : floorN a = double.word (sg a) r := by rw [floor_fin T a hT (by omega), hL, ← hr, R_up' (Nat.le_of_lt hrl)]
  have rgf : rg (floorN a) = r := by rw [hf, rg_word _ (by omega)]
  have sgf : sg (floorN a) = sg a := by rw [hf, sg_word _ (by omega)]
  have hN : isN (floorN a) = false := by rw [isN_eq, rgf, decide_eq_false (by omega)]
  have nA : isN a = false := by rw [isN_eq, decide_eq_false (by omega)]
  have hfl := floor_lt64 a
  have hm := Nat.div_add_mod (up (rg a)) (2 ^ T)
  have hml := Nat.mod_lt (up (rg a)) hp
  rw [Nat.mul_comm] at hm
  have Sf : S (floorN a) = if sg a then -((L * 2 ^ T : Nat) : Int) else ((L * 2 ^ T : Nat) : Int) := by unfold S; rw [sgf, rgf, hr]
  have rK : r < 4890909195324358656 := by
    refine up_lt_iff.1 ?_
    rw [hr, up_K T hT]; exact Nat.mul_lt_mul_of_pos_right (by omega) hp
  -- between floor and rest
  have hLe : sg a = false → L = up (rg a) / 2 ^ T := by intro h; rw [← hL, hFl, h]; rfl
  have hLt : sg a = true → L = up (rg a) / 2 ^ T + (up (rg a) % 2 ^ T != 0).toNat := by intro h; rw [← hL, hFl, h]; rfl
  have hLq : L = up (rg a) / 2 ^ T ∨ L = up (rg a) / 2 ^ T + 1 := by omega
  refine ⟨hfl, ?_, hN, ?_, ?_, ?_⟩
  · have : flo T (floorN a) = L := by
      unfold flo
      rw [rgf, sgf, hr, Nat.mul_div_cancel _ hp, Nat.mul_mod_left]
      show L + (sg a && false).toNat = L
      rw [Bool.and_false]; rfl
    rw [floor_fin T (floorN a) hT (by omega), sgf, this, ← hr, R_up' (Nat.le_of_lt hrl)]
    exact hf.symm
  · refine Int.not_lt.1 fun h => ?_
    have := (key_lt_S _ _ ha hfl).1 h
    rw [Sf] at this
    unfold S at this
    cases hsg : sg a
    · rw [hsg, hLe hsg] at this
      simp only [Bool.false_eq_true, if_false] at this
      omega
    · have e := hLt hsg
      rw [hsg] at this
      simp only [if_true] at this
      by_cases hz : up (rg a) % 2 ^ T = 0
      · rw [hz] at e
        have e' : L = up (rg a) / 2 ^ T := e
        rw [e'] at this; omega
      · rw [bne_iff_ne.2 hz] at e
        have e' : L = up (rg a) / 2 ^ T + 1 := e
        rw [e', Nat.add_mul, Nat.one_mul] at this; omega
  · obtain ⟨o1, o2, o3, o4⟩ := from_fin T hT 1 (by decide)
    rw [num1_eq]
    refine (key_lt_S _ _ ha (add_lt64 _ _)).2 ?_
    obtain ⟨n, hn⟩ : ∃ n : Int, (if sg a then -((L : Nat) : Int) else ((L : Nat) : Int)) = n := ⟨_, rfl⟩
    have hSf : S (floorN a) = n * 2 ^ T := by
      rw [Sf, ← hn]
      cases sg a
      · simp
      · simp [Int.neg_mul]
    have hsum : S (floorN a) + S (fromN 1) = (n + 1) * 2 ^ T := by rw [hSf, o4, ← Int.add_mul]
    have hnb : (n + 1).natAbs ≤ 9007199254740992 := by rw [← hn]; split <;> omega
    have hSg : S (addN (floorN a) (fromN 1)) = (n + 1) * 2 ^ T := by
      rw [add_fin _ _ (by omega) o1, hsum]
      by_cases hz : n + 1 = 0
      · rw [hz, Int.zero_mul, if_pos rfl, S_word _ (by omega), up_zero]; split <;> rfl
      · obtain ⟨r2, hr2, hr2l⟩ := rep_whole T hT _ hnb
        rw [if_neg (fun e => hz (mul_pow_zero.1 e)), natAbs_pow, ← hr2, R_up' (Nat.le_of_lt hr2l), S_word _ (by omega), hr2, ← natAbs_pow]
        by_cases hneg : (n + 1) * 2 ^ T < 0
        · rw [decide_eq_true hneg, if_pos rfl]; omega
        · rw [decide_eq_false hneg, if_neg (by simp)]; omega
    rw [hSg]
    have hx : (n + 1) * 2 ^ T = n * 2 ^ T + 2 ^ T := by rw [Int.add_mul, Int.one_mul]
    rw [hx, ← hSf, Sf]
    have hc : (2 : Int) ^ T = ((2 ^ T : Nat) : Int) := by rw [Int.natCast_pow]; rfl
    rw [hc]
    unfold S
    cases hsg : sg a
    · rw [hLe hsg]
      simp only [Bool.false_eq_true, if_false]
      omega
    · have e := hLt hsg
      simp only [if_true]
      by_cases hz : up (rg a) % 2 ^ T = 0
      · rw [hz] at e
        have e' : L = up (rg a) / 2 ^ T := e
        rw [e']; omega
      · rw [bne_iff_ne.2 hz] at e
        have e' : L = up (rg a) / 2 ^ T + 1 := e
        rw [e', Nat.add_mul, Nat.one_mul]; omega
  · have kf := key_S (floorN a) hfl
    have ka := key_S a ha
    rw [rgf, sgf] at kf
    have t1 := toN_yes T (floorN a) hN (by rw [kf]; split <;> omega) (by rw [kf]; split <;> omega)
    have t2 := toN_yes T a nA (by rw [ka]; split <;> omega) (by rw [ka]; split <;> omega)
    rw [rgf, sgf, hr, Nat.mul_div_cancel _ hp] at t1
    refine ⟨_, _, t1, t2, ?_, ?_, ?_, ?_, ?_⟩
    · have : ((if sg a then -((L : Nat) : Int) else ((L : Nat) : Int)) : Int).natAbs = L := by split <;> omega
      rw [from_val T hT, this, ← hr, R_up' (Nat.le_of_lt hrl), word_mod _ (by omega)]
      exact rgf.symm
    · split <;> omega
    · split <;> omega
    · intro h
      have hsg := sg_false h
      rw [hsg, hLe hsg]
    · intro h
      have hsg := sg_true ha (Nat.not_lt.1 h)
      have e := hLt hsg
      rw [hsg]
      simp only [if_true]
      by_cases hz : up (rg a) % 2 ^ T = 0
      · left
        rw [hz] at e
        have e' : L = up (rg a) / 2 ^ T := e
        refine ⟨?_, by rw [e']⟩
        have : r = rg a := up_inj (by rw [hr, e']; omega)
        rw [hf, this, word_sg_rg ha]
      · right
        rw [bne_iff_ne.2 hz] at e
        have e' : L = up (rg a) / 2 ^ T + 1 := e
        refine ⟨fun hfa => ?_, by rw [e']; omega⟩
        have : r = rg a := by rw [← rgf, hfa]
        rw [this, e', Nat.add_mul, Nat.one_mul] at hr
        omega
theorem floor_big (T a : Nat) (hT : T = 1074) (ha : a < 18446744073709551616) (h1 : 4841369599423283200 ≤ rg a) (h2 : rg a < 9218868437227405312) : floorN a = a := by
  have hk : T ≤ kx (rg a) := by
    have := kx_le h1
    rw [show kx 4841369599423283200 = 1074 from by decide] at this
    omega
  have hp := Nat.two_pow_pos T
  have e : up (rg a) = mg (rg a) * 2 ^ (kx (rg a) - T) * 2 ^ T := by rw [up_eq, Nat.mul_assoc, ← Nat.pow_add, Nat.sub_add_cancel hk]
  have : flo T a * 2 ^ T = up (rg a) := by
    unfold flo
    rw [e, Nat.mul_div_cancel _ hp, Nat.mul_mod_left]
    show (mg (rg a) * 2 ^ (kx (rg a) - T) + (sg a && false).toNat) * 2 ^ T = _
    rw [Bool.and_false]; rfl
  rw [floor_fin T a hT h2, this, R_up' (Nat.le_of_lt h2), word_sg_rg ha]
theorem floor_inf' (a : Nat) (ha : a < 18446744073709551616) (h : rg a = 9218868437227405312) : floorN a = a := by
  have n : isN a = false := by rw [isN_eq, h]; decide
  unfold floorN
  rw [n, if_neg (by simp), read_inf a h]
  show double.word (sg a) 9218868437227405312 = a
  rw [← h, word_sg_rg ha]
theorem floor_N (a : Nat) (n : isN a = true) : floorN a = 9221120237041090560 := by unfold floorN; rw [n]; rfl
end Go.Proofs.Ytcipmcmdhdaicaa
