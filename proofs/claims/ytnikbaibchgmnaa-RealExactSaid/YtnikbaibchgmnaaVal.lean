/-
  Sums and products by what they stand for.
-/
import Derived.Test.YtnikbaibchgmnaaSign
namespace Go.Proofs.Ytnikbaibchgmnaa
open Go.RowKit Ieee

theorem rg_lt (a : Nat) : rg a < 9223372036854775808 := Nat.mod_lt _ (by decide)
theorem rg_word (s : Bool) {r : Nat} (h : r < 9223372036854775808) : rg (double.word s r) = r := word_mod s h
theorem sg_word (s : Bool) {r : Nat} (h : r < 9223372036854775808) : sg (double.word s r) = s := by
  have := word_lt64 s h
  cases s
  · exact sg_false (by show r < _; omega)
  · exact sg_true this (by show _ ≤ 9223372036854775808 + r; omega)
theorem S_word (s : Bool) {r : Nat} (h : r < 9223372036854775808) : S (double.word s r) = if s then -(up r : Int) else (up r : Int) := by
  unfold S; rw [sg_word s h, rg_word s h]
theorem write_R (s : Bool) (m : Nat) (e : Int) (k t : Nat) (h : e + 1074 + t = k) : double.write (.number s m e) = double.word s (R (m * 2 ^ k) t) := nearest_R s m e k t h

theorem S_natAbs (a : Nat) : (S a).natAbs = up (rg a) := by unfold S; split <;> omega
/-- The sum of two finite numbers. -/
theorem add_fin (a b : Nat) (ha : rg a < 9218868437227405312) (hb : rg b < 9218868437227405312) : addN a b = if S a + S b = 0 then double.word (sg a && sg b) 0 else double.word (decide (S a + S b < 0)) (R (S a + S b).natAbs 0) := by
  unfold addN Format.add
  rw [read_fin a ha, read_fin b hb]
  simp only [Datum.sum, Option.map_some, Option.getD_some]
  obtain ⟨c, hc⟩ : ∃ c, min (kx (rg a)) (kx (rg b)) = c := ⟨_, rfl⟩
  have h1 : ((-1074 + (kx (rg a) : Int)) - min (-1074 + (kx (rg a) : Int)) (-1074 + (kx (rg b) : Int))).toNat = kx (rg a) - c := by omega
  have h2 : ((-1074 + (kx (rg b) : Int)) - min (-1074 + (kx (rg a) : Int)) (-1074 + (kx (rg b) : Int))).toNat = kx (rg b) - c := by omega
  have h3 : min (-1074 + (kx (rg a) : Int)) (-1074 + (kx (rg b) : Int)) = -1074 + (c : Int) := by omega
  rw [h1, h2, h3]
  have hT : (signed (sg a) (mg (rg a)) (kx (rg a) - c) + signed (sg b) (mg (rg b)) (kx (rg b) - c)) * 2 ^ c = S a + S b := by
    rw [Int.add_mul, S_signed a c (by omega), S_signed b c (by omega)]
  generalize signed (sg a) (mg (rg a)) (kx (rg a) - c) + signed (sg b) (mg (rg b)) (kx (rg b) - c) = T at hT ⊢
  rw [← hT]
  have hp := pow2_pos c
  rw [write_R _ _ _ c 0 (by omega)]
  by_cases h0 : T = 0
  · subst h0
    rw [if_pos rfl, if_pos (by simp), show (0 : Int).natAbs * 2 ^ c = 0 from by simp, R_zero]
  · have hne : T * 2 ^ c ≠ 0 := fun h => by
      rcases Int.mul_eq_zero.1 h with h | h
      · exact h0 h
      · omega
    rw [if_neg h0, if_neg hne]
    have hlt : decide (T * 2 ^ c < 0) = decide (T < 0) := by
      rcases Int.lt_or_gt_of_ne h0 with h | h
      · rw [decide_eq_true h, decide_eq_true (Int.mul_neg_of_neg_of_pos h hp)]
      · rw [decide_eq_false (Int.not_lt.2 (Int.le_of_lt (Int.mul_pos h hp))), decide_eq_false (by omega)]
    rw [hlt, Int.natAbs_mul]
    have : ((2 : Int) ^ c).natAbs = 2 ^ c := by rw [Int.natAbs_pow]; rfl
    rw [this]
theorem up_zero_iff (r : Nat) : up r = 0 ↔ r = 0 := ⟨fun h => up_inj (h.trans up_zero.symm), fun h => by rw [h]; rfl⟩
/-- The product of two finite numbers. -/
theorem mul_fin (a b : Nat) (ha : rg a < 9218868437227405312) (hb : rg b < 9218868437227405312) : mulN a b = double.word (sg a ^^ sg b) (R (up (rg a) * up (rg b)) 1074) := by
  unfold mulN Format.mul
  rw [read_fin a ha, read_fin b hb]
  simp only [Datum.product, Option.map_some, Option.getD_some]
  rw [write_R _ _ _ (kx (rg a) + kx (rg b)) 1074 (by omega), up_eq, up_eq, Nat.pow_add]
  have : mg (rg a) * mg (rg b) * (2 ^ kx (rg a) * 2 ^ kx (rg b)) = mg (rg a) * 2 ^ kx (rg a) * (mg (rg b) * 2 ^ kx (rg b)) := by
    rw [Nat.mul_assoc, Nat.mul_assoc, Nat.mul_left_comm (mg (rg b))]
  rw [this]

/-- A whole number of at most 53 bits times a power of two is a number. -/
theorem rep (k : Nat) : ∀ M, M < 9007199254740992 → ∃ r, up r = M * 2 ^ k := by
  induction k with
  | zero =>
    intro M hM
    refine ⟨M, ?_⟩
    unfold up
    split
    · omega
    · rw [show M / 2 ^ 52 = 1 from by omega]; omega
  | succ k ih =>
    intro M hM
    by_cases h : M < 4503599627370496
    · obtain ⟨r, hr⟩ := ih (2 * M) (by omega)
      exact ⟨r, by rw [hr, Nat.pow_succ, Nat.mul_comm 2 M, Nat.mul_assoc, Nat.mul_comm 2]⟩
    · refine ⟨(k + 1) * 4503599627370496 + M, ?_⟩
      unfold up
      rw [if_neg (by omega)]
      have e1 : ((k + 1) * 4503599627370496 + M) / 2 ^ 52 = k + 2 := by omega
      have e2 : ((k + 1) * 4503599627370496 + M) % 2 ^ 52 = M - 4503599627370496 := by omega
      rw [e1, e2]
      have e3 : 2 ^ 52 + (M - 4503599627370496) = M := by omega
      rw [e3]; rfl
theorem mg_lt (r : Nat) : mg r < 9007199254740992 := by unfold mg; split <;> omega
theorem kx_le {r t : Nat} (h : r ≤ t) : kx r ≤ kx t := by
  unfold kx; split
  · omega
  · rw [if_neg (by omega)]; have := Nat.div_le_div_right (c := 4503599627370496) h; omega
theorem twice_up (b : Nat) : up (if b < 4503599627370496 then b * 2 else b + 4503599627370496) = 2 * up b := by
  by_cases h : b < 4503599627370496
  · rw [if_pos h]
    unfold up
    rw [if_pos (show b < 2 ^ 52 from h)]
    split
    · omega
    · rw [show b * 2 / 2 ^ 52 = 1 from by omega]; omega
  · rw [if_neg h]
    unfold up
    rw [if_neg (by omega), if_neg (by omega)]
    have e1 : (b + 4503599627370496) / 2 ^ 52 - 1 = (b / 2 ^ 52 - 1) + 1 := by omega
    have e2 : (b + 4503599627370496) % 2 ^ 52 = b % 2 ^ 52 := by omega
    rw [e1, e2]
    generalize b / 2 ^ 52 - 1 = q
    rw [show (2 : Nat) ^ (q + 1) = 2 * 2 ^ q from by rw [Nat.pow_succ, Nat.mul_comm], Nat.mul_left_comm]
/-- Of two numbers, the greater at most twice the other, the difference is a number. -/
theorem sterbenz {x y : Nat} (h : y ≤ x) (h2 : up x ≤ 2 * up y) : ∃ r, up r = up x - up y := by
  have hk := kx_le h
  have e1 : up x = mg x * 2 ^ (kx x - kx y) * 2 ^ kx y := by rw [up_eq, Nat.mul_assoc, ← Nat.pow_add, Nat.sub_add_cancel hk]
  have e2 : up y = mg y * 2 ^ kx y := up_eq y
  have hp := Nat.two_pow_pos (kx y)
  obtain ⟨r, hr⟩ := rep (kx y) (mg x * 2 ^ (kx x - kx y) - mg y) (by
    have h3 : mg x * 2 ^ (kx x - kx y) ≤ 2 * mg y := by
      rw [e1, e2, ← Nat.mul_assoc] at h2
      exact Nat.le_of_mul_le_mul_right h2 hp
    have := mg_lt y
    omega)
  exact ⟨r, by rw [hr, Nat.sub_mul, e1, e2]⟩
/-- A finite sum that is a number. -/
theorem add_exact (a b r : Nat) (ha : rg a < 9218868437227405312) (hb : rg b < 9218868437227405312) (hr : r < 9218868437227405312) (h : (S a + S b).natAbs = up r) (hz : S a + S b ≠ 0) : addN a b = double.word (decide (S a + S b < 0)) r := by
  rw [add_fin a b ha hb, if_neg hz, h, R_up' (Nat.le_of_lt hr)]
theorem pos_sg {a : Nat} (h : a < 9218868437227405312) : sg a = false ∧ rg a = a ∧ S a = up a := by
  have h1 : sg a = false := sg_false (by omega)
  have h2 : rg a = a := Nat.mod_eq_of_lt (by omega)
  exact ⟨h1, h2, by unfold S; rw [h1, h2]; rfl⟩
theorem S_flip {a : Nat} (h : a < 18446744073709551616) : S (flip a) = - S a := by
  unfold S; rw [flip_sg h, flip_rg h]; cases sg a <;> simp
theorem near_one (a b : Nat) (h0 : 0 < a) (ha : a < 9218868437227405312) (hb : b < 9218868437227405312) (h1 : up a ≤ 2 * up b) (h2 : up b ≤ 2 * up a) : addN (subN a b) b = a := by
  obtain ⟨sa, ra, Sa⟩ := pos_sg ha
  obtain ⟨sb, rb, Sb⟩ := pos_sg hb
  have hbl : b < 18446744073709551616 := by omega
  have nb : isN b = false := by rw [isN_eq, rb, decide_eq_false (by omega)]
  have hfr : rg (flip b) < 9218868437227405312 := by rw [flip_rg hbl, rb]; exact hb
  have hpos : 0 < up a := by have := up_lt h0; rw [up_zero] at this; exact this
  have hS : subN a b = addN a (flip b) := by unfold subN; rw [neg_of_notN hbl nb]
  have hT : S a + S (flip b) = (up a : Int) - up b := by rw [S_flip hbl, Sa, Sb]; omega
  -- the difference
  have key : ∃ d, subN a b = d ∧ rg d < 9218868437227405312 ∧ S d = (up a : Int) - up b := by
    refine ⟨_, rfl, ?_⟩
    rw [hS]
    by_cases hz : S a + S (flip b) = 0
    · rw [add_fin a (flip b) (by rw [ra]; exact ha) hfr, if_pos hz, rg_word _ (by omega), S_word _ (by omega)]
      refine ⟨by omega, ?_⟩
      rw [hT] at hz
      rw [hz, up_zero]; split <;> rfl
    · obtain ⟨r, hr⟩ : ∃ r, up r = (S a + S (flip b)).natAbs := by
        rcases Nat.lt_or_ge a b with h | h
        · obtain ⟨r, hr⟩ := sterbenz (Nat.le_of_lt h) h2
          exact ⟨r, by have := up_lt h; rw [hr, hT]; omega⟩
        · obtain ⟨r, hr⟩ := sterbenz h h1
          exact ⟨r, by have := up_le h; rw [hr, hT]; omega⟩
      have hri : r < 9218868437227405312 := by
        have : up r < up (max a b) ∨ up r ≤ up (max a b) := by
          right
          rcases Nat.lt_or_ge a b with h | h
          · rw [Nat.max_eq_right (by omega)]; have := up_lt h; omega
          · rw [Nat.max_eq_left h]; have := up_le h; omega
        rcases Nat.lt_or_ge r 9218868437227405312 with h | h
        · exact h
        · have := up_le h
          have h3 := @up_lt (max a b) 9218868437227405312 (by omega)
          omega
      rw [add_exact a (flip b) r (by rw [ra]; exact ha) hfr hri hr.symm hz, rg_word _ (by omega), S_word _ (by omega)]
      refine ⟨hri, ?_⟩
      rw [hr]
      rw [hT] at hz ⊢
      by_cases hn : (up a : Int) - up b < 0
      · rw [decide_eq_true hn, if_pos rfl]; omega
      · rw [decide_eq_false hn, if_neg (by simp)]; omega
  obtain ⟨d, hd, hdr, hdS⟩ := key
  rw [hd]
  have hs : S d + S b = up a := by rw [hdS, Sb]; omega
  rw [add_exact d b a hdr (by rw [rb]; exact hb) ha (by rw [hs]; rfl) (by rw [hs]; omega), hs, decide_eq_false (by omega)]
  rfl
end Go.Proofs.Ytnikbaibchgmnaa
