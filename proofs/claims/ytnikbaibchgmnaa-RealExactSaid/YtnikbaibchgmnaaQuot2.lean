/-
  The quotient of two finite numbers; whole numbers.
-/
import Derived.Test.YtnikbaibchgmnaaQuot
import Derived.Test.YtnikbaibchgmnaaScale
namespace Go.Proofs.Ytnikbaibchgmnaa
open Go.RowKit Ieee

theorem mg_pos {r : Nat} (h : r ≠ 0) : mg r ≠ 0 := by unfold mg; split <;> omega
theorem up_pos {r : Nat} (h : r ≠ 0) : 0 < up r := by
  have := up_lt (show 0 < r by omega)
  rw [up_zero] at this
  exact this
/-- The quotient of two finite numbers that are no zeros. -/
theorem div_spec (T a b : Nat) (hT : T = 1074) (ha : rg a < 9218868437227405312) (hb : rg b < 9218868437227405312) (za : rg a ≠ 0) (zb : rg b ≠ 0) :
    ∃ r, divN a b = double.word (sg a ^^ sg b) r ∧ r ≤ 9218868437227405312 ∧ ∀ t, t < 9218868437227405312 → (r ≤ t ↔ 2 * (up (rg a) * 2 ^ T) < (up t + up (t + 1)) * up (rg b) ∨ (2 * (up (rg a) * 2 ^ T) = (up t + up (t + 1)) * up (rg b) ∧ t % 2 = 0)) := by
  have hm := mg_pos za
  have hn := mg_pos zb
  obtain ⟨M, hM⟩ : ∃ M, 54 + (mg (rg b)).log2 - (mg (rg a)).log2 = M := ⟨_, rfl⟩
  have hl : (mg (rg a)).log2 ≤ 52 := by have := (Nat.log2_lt hm).2 (show mg (rg a) < 2 ^ 53 from mg_lt _); omega
  refine ⟨R ((2 * (mg (rg a) * 2 ^ M / mg (rg b)) + (mg (rg a) * 2 ^ M % mg (rg b) != 0).toNat) * 2 ^ (kx (rg a) + T)) (kx (rg b) + (M + 1)), ?_, R_le .., fun t ht => ?_⟩
  · unfold divN
    rw [dbl_div, read_fin a ha, read_fin b hb]
    simp only [Datum.quotient]
    rw [if_neg hn]
    simp only [Option.map_some, Option.getD_some]
    rw [hM, Nat.shiftLeft_eq]
    exact write_R _ _ _ _ _ (by omega)
  · rw [R_sticky (Nat.pos_of_ne_zero hn) ht]
    · have hp := Nat.two_pow_pos (M + 1)
      have e1 : mg (rg a) * 2 ^ M * 2 ^ (kx (rg a) + T + 2) = 2 * (up (rg a) * 2 ^ T) * 2 ^ (M + 1) := by
        have x1 : mg (rg a) * 2 ^ M * 2 ^ (kx (rg a) + T + 2) = mg (rg a) * 2 ^ (kx (rg a) + T + (M + 1) + 1) := by
          rw [Nat.mul_assoc, ← Nat.pow_add, show M + (kx (rg a) + T + 2) = kx (rg a) + T + (M + 1) + 1 from by omega]
        rw [x1, Nat.pow_succ, Nat.pow_add, Nat.pow_add 2 (kx (rg a)), up_eq, Nat.mul_comm _ 2, Nat.mul_left_comm, Nat.mul_assoc 2, Nat.mul_assoc (mg (rg a)), Nat.mul_assoc (mg (rg a))]
      have e2 : (up t + up (t + 1)) * 2 ^ (kx (rg b) + (M + 1)) * mg (rg b) = (up t + up (t + 1)) * up (rg b) * 2 ^ (M + 1) := by
        rw [Nat.pow_add 2 (kx (rg b)), up_eq (rg b), Nat.mul_assoc, Nat.mul_assoc (up t + up (t + 1)), Nat.mul_right_comm, Nat.mul_comm (2 ^ kx (rg b)), Nat.mul_right_comm]
      rw [e1, e2, Nat.mul_lt_mul_right hp, Nat.mul_left_inj (Nat.pos_iff_ne_zero.1 hp)]
    · have f1 := log2_le' hm
      have f2 := log2_lt' hn
      have f3 : (2 : Nat) ^ (54 + (mg (rg b)).log2) = 2 ^ (mg (rg a)).log2 * 2 ^ M := by rw [← Nat.pow_add]; congr 1; omega
      have f4 : (2 : Nat) ^ (54 + (mg (rg b)).log2) = 9007199254740992 * 2 ^ ((mg (rg b)).log2 + 1) := by
        rw [show 54 + (mg (rg b)).log2 = 53 + ((mg (rg b)).log2 + 1) from by omega, Nat.pow_add]
      have f5 := Nat.mul_le_mul_right (2 ^ M) f1
      have f6 : 9007199254740992 * mg (rg b) ≤ 9007199254740992 * 2 ^ ((mg (rg b)).log2 + 1) := Nat.mul_le_mul_left _ (Nat.le_of_lt f2)
      omega

/-- A whole number as a number. -/
theorem from_val (T : Nat) (hT : T = 1074) (n : Int) : fromN n = double.word (decide (n < 0)) (R (n.natAbs * 2 ^ T) 0) := by
  unfold fromN
  exact write_R _ _ _ _ _ (by omega)
theorem rep_whole (T : Nat) (hT : T = 1074) (M : Nat) (h : M ≤ 9007199254740992) : ∃ r, up r = M * 2 ^ T ∧ r < 9218868437227405312 := by
  obtain ⟨r, hr⟩ : ∃ r, up r = M * 2 ^ T := by
    by_cases h1 : M = 9007199254740992
    · obtain ⟨r, hr⟩ := rep (T + 1) 4503599627370496 (by omega)
      refine ⟨r, ?_⟩
      rw [hr, h1, Nat.pow_succ, Nat.mul_comm _ 2, ← Nat.mul_assoc]
    · exact rep T M (by omega)
  refine ⟨r, hr, ?_⟩
  rcases Nat.lt_or_ge r 9218868437227405312 with h2 | h2
  · exact h2
  · have h3 := up_le h2
    obtain ⟨E, hE⟩ : ∃ E, E = 972 := ⟨_, rfl⟩
    have h4 : up 9218868437227405312 = 4503599627370496 * 2 ^ (T + E) := by
      rw [up_eq, show mg 9218868437227405312 = 4503599627370496 from by decide, show kx 9218868437227405312 = T + E from by rw [hT, hE]; decide]
    rw [h4, hr, Nat.pow_add, Nat.mul_comm (2 ^ T), ← Nat.mul_assoc] at h3
    have h5 : 4503599627370496 * 2 ^ 2 ≤ 4503599627370496 * 2 ^ E := Nat.mul_le_mul_left _ (Nat.pow_le_pow_right (by decide) (by omega))
    have h6 := Nat.mul_lt_mul_of_pos_right (show M < 4503599627370496 * 2 ^ 2 by omega) (Nat.two_pow_pos T)
    have h7 := Nat.mul_le_mul_right (2 ^ T) h5
    omega
theorem from_fin (T : Nat) (hT : T = 1074) (n : Int) (h : n.natAbs ≤ 9007199254740992) : rg (fromN n) < 9218868437227405312 ∧ sg (fromN n) = decide (n < 0) ∧ up (rg (fromN n)) = n.natAbs * 2 ^ T ∧ S (fromN n) = n * 2 ^ T := by
  obtain ⟨r, hr, hlt⟩ := rep_whole T hT n.natAbs h
  have e : fromN n = double.word (decide (n < 0)) r := by rw [from_val T hT, ← hr, R_up' (Nat.le_of_lt hlt)]
  have e1 : rg (fromN n) = r := by rw [e, rg_word _ (by omega)]
  have e2 : sg (fromN n) = decide (n < 0) := by rw [e, sg_word _ (by omega)]
  refine ⟨by omega, e2, by rw [e1, hr], ?_⟩
  unfold S
  rw [e1, e2, hr, Int.natCast_mul, Int.natCast_pow]
  by_cases hn : n < 0
  · rw [decide_eq_true hn, if_pos rfl, ← Int.neg_mul]; congr 1; omega
  · rw [decide_eq_false hn, if_neg (by simp)]; congr 1; omega
theorem from_zero : fromN 0 = 0 := by decide +kernel
theorem natAbs_pow (x : Int) (T : Nat) : (x * 2 ^ T).natAbs = x.natAbs * 2 ^ T := by
  rw [Int.natAbs_mul, Int.natAbs_pow]; rfl
theorem mul_pow_zero {x : Int} {T : Nat} : x * 2 ^ T = 0 ↔ x = 0 :=
  ⟨fun h => by rcases Int.mul_eq_zero.1 h with h | h; exact h; have := pow2_pos T; omega, fun h => by rw [h, Int.zero_mul]⟩
theorem mul_pow_neg {x : Int} {T : Nat} : x * 2 ^ T < 0 ↔ x < 0 := by
  have hp := pow2_pos T
  constructor
  · intro h
    by_cases h1 : x < 0
    · exact h1
    · have := Int.mul_nonneg (Int.not_lt.1 h1) (Int.le_of_lt hp); omega
  · intro h; exact Int.mul_neg_of_neg_of_pos h hp
/-- Whole numbers are added exactly. -/
theorem add_whole (i j : Int) (hi : i.natAbs ≤ 9007199254740992) (hj : j.natAbs ≤ 9007199254740992) : addN (fromN i) (fromN j) = fromN (i + j) := by
  obtain ⟨T, hT⟩ : ∃ T, T = 1074 := ⟨_, rfl⟩
  obtain ⟨a1, a2, a3, a4⟩ := from_fin T hT i hi
  obtain ⟨b1, b2, b3, b4⟩ := from_fin T hT j hj
  rw [add_fin _ _ a1 b1, a4, b4, ← Int.add_mul, a2, b2]
  by_cases h : i + j = 0
  · rw [h, Int.zero_mul, if_pos rfl, from_zero]
    have : (decide (i < 0) && decide (j < 0)) = false := by
      rw [Bool.and_eq_false_iff, decide_eq_false_iff_not, decide_eq_false_iff_not]; omega
    rw [this]; rfl
  · rw [if_neg (fun e => h (mul_pow_zero.1 e)), natAbs_pow, from_val T hT]
    congr 1
    exact decide_eq_decide.2 mul_pow_neg
theorem from_notN' (n : Int) : isN (fromN n) = false := fromN_notN n
theorem sub_whole (i j : Int) (hi : i.natAbs ≤ 9007199254740992) (hj : j.natAbs ≤ 9007199254740992) : subN (fromN i) (fromN j) = fromN (i - j) := by
  obtain ⟨T, hT⟩ : ∃ T, T = 1074 := ⟨_, rfl⟩
  obtain ⟨a1, a2, a3, a4⟩ := from_fin T hT i hi
  obtain ⟨b1, b2, b3, b4⟩ := from_fin T hT j hj
  unfold subN
  rw [neg_of_notN (fromN_lt j) (fromN_notN j), add_fin _ _ a1 (by rw [flip_rg (fromN_lt j)]; exact b1), S_flip (fromN_lt j), a4, b4, flip_sg (fromN_lt j), a2, b2, ← Int.neg_mul, ← Int.add_mul, ← Int.sub_eq_add_neg]
  by_cases h : i - j = 0
  · rw [h, Int.zero_mul, if_pos rfl, from_zero]
    obtain rfl : i = j := by omega
    have : (decide (i < 0) && !decide (i < 0)) = false := by cases decide (i < 0) <;> rfl
    rw [this]; rfl
  · rw [if_neg (fun e => h (mul_pow_zero.1 e)), natAbs_pow, from_val T hT]
    congr 1
    exact decide_eq_decide.2 mul_pow_neg
theorem mul_whole (i j : Int) (hi : i.natAbs ≤ 9007199254740992) (hj : j.natAbs ≤ 9007199254740992) : mulN (fromN i) (fromN j) = double.word (decide (i < 0) ^^ decide (j < 0)) (rg (fromN (i * j))) := by
  obtain ⟨T, hT⟩ : ∃ T, T = 1074 := ⟨_, rfl⟩
  obtain ⟨a1, a2, a3, a4⟩ := from_fin T hT i hi
  obtain ⟨b1, b2, b3, b4⟩ := from_fin T hT j hj
  rw [mul_fin _ _ a1 b1, a2, b2, a3, b3, from_val T hT, rg_word _ (Nat.lt_of_le_of_lt (R_le ..) (by omega)), Int.natAbs_mul, ← hT]
  refine congrArg (double.word _) ?_
  have := R_scale (i.natAbs * j.natAbs * 2 ^ T) 0 T
  rw [Nat.zero_add] at this
  rw [← this, Nat.mul_mul_mul_comm, ← Nat.mul_assoc]
/-- The quotient of two whole numbers lies, rounded, between the whole ones around it. -/
theorem div_whole (T : Nat) (hT : T = 1074) (i j : Nat) (hi : 1 ≤ i) (hj : 1 ≤ j) (hi2 : i ≤ 4503599627370496) (hj2 : j ≤ 4503599627370496) : ∃ r, divN (fromN i) (fromN j) = double.word false r ∧ r < 9218868437227405312 ∧ up r / 2 ^ T = i / j := by
  obtain ⟨a1, a2, a3, a4⟩ := from_fin T hT i (by omega)
  obtain ⟨b1, b2, b3, b4⟩ := from_fin T hT j (by omega)
  have hp := Nat.two_pow_pos T
  have za : rg (fromN i) ≠ 0 := fun h => by
    rw [h, up_zero] at a3
    have := Nat.mul_pos (show 0 < (i : Int).natAbs by omega) hp
    omega
  have zb : rg (fromN j) ≠ 0 := fun h => by
    rw [h, up_zero] at b3
    have := Nat.mul_pos (show 0 < (j : Int).natAbs by omega) hp
    omega
  obtain ⟨r, hr, hle, hs⟩ := div_spec T (fromN i) (fromN j) hT a1 b1 za zb
  rw [a2, b2, decide_eq_false (by omega), decide_eq_false (by omega), Bool.xor_self] at hr
  rw [a3, b3, Int.natAbs_natCast, Int.natAbs_natCast] at hs
  obtain ⟨q, hq⟩ : ∃ q, i / j = q := ⟨_, rfl⟩
  have d1 : q * j ≤ i := by rw [← hq]; exact Nat.div_mul_le_self i j
  have d2 : i < (q + 1) * j := by rw [← hq]; exact Nat.lt_mul_of_div_lt (Nat.lt_succ_self _) hj
  have d3 : q ≤ 4503599627370496 := by rw [← hq]; exact Nat.le_trans (Nat.div_le_self i j) hi2
  -- not below
  obtain ⟨x, hx, hxl⟩ := rep_whole T hT q (by omega)
  have low : x ≤ r := by
    rcases Nat.lt_or_ge r x with h | h
    · exfalso
      obtain ⟨y, rfl⟩ : ∃ y, x = y + 1 := ⟨x - 1, by omega⟩
      have hc := (hs y (by omega)).1 (by omega)
      have k1 : (up y + up (y + 1)) * (j * 2 ^ T) < 2 * (i * 2 ^ T * 2 ^ T) := by
        have m1 : (up y + up (y + 1)) < 2 * (q * 2 ^ T) := by have := up_succ y; omega
        have m2 := Nat.mul_lt_mul_of_pos_right m1 (Nat.mul_pos hj hp)
        have m3 : 2 * (q * 2 ^ T) * (j * 2 ^ T) = 2 * (q * j * 2 ^ T * 2 ^ T) := by
          rw [Nat.mul_assoc 2, Nat.mul_mul_mul_comm, Nat.mul_assoc (q * j)]
        have m4 := Nat.mul_le_mul_right (2 ^ T) (Nat.mul_le_mul_right (2 ^ T) d1)
        omega
      rcases hc with hc | ⟨hc, _⟩ <;> omega
    · exact h
  -- not above
  obtain ⟨z, hz, hzl⟩ := rep_whole T hT (q + 1) (by omega)
  have zpos : z ≠ 0 := fun h => by
    rw [h, up_zero] at hz
    have := Nat.mul_pos (show 0 < q + 1 by omega) hp
    omega
  obtain ⟨y, rfl⟩ : ∃ y, z = y + 1 := ⟨z - 1, by omega⟩
  have high : r ≤ y := by
    refine (hs y (by omega)).2 (.inl ?_)
    have n1 := up_next y
    have n2 := up_eq y
    have n3 : up (y + 1) = up y + 2 ^ kx y := by rw [n1, n2, Nat.add_mul, Nat.one_mul]
    have ybig : 4503599627370496 ≤ y := by
      rcases Nat.lt_or_ge y 4503599627370496 with h | h
      · exfalso
        have h1 := up_le (show y + 1 ≤ 4503599627370496 by omega)
        have h2 : up 4503599627370496 = 4503599627370496 := by decide
        have h3 : 2 ^ 53 ≤ 2 ^ T := Nat.pow_le_pow_right (by decide) (by omega)
        have h4 : 1 * 2 ^ T ≤ (q + 1) * 2 ^ T := Nat.mul_le_mul_right _ (by omega)
        have h5 : (2 : Nat) ^ 53 = 9007199254740992 := by decide
        omega
      · exact h
    have mgy : 4503599627370496 ≤ mg y := by unfold mg; rw [if_neg (by omega)]; omega
    have g1 : 4503599627370497 * 2 ^ kx y ≤ (q + 1) * 2 ^ T := by
      rw [← hz, n1]; exact Nat.mul_le_mul_right _ (by omega)
    have g2 : j * 2 ^ kx y < 2 * 2 ^ T := by
      have c1 : j * (4503599627370497 * 2 ^ kx y) ≤ j * ((q + 1) * 2 ^ T) := Nat.mul_le_mul_left _ g1
      have c2 : j * (q + 1) ≤ 9007199254740992 := by
        rw [Nat.mul_add, Nat.mul_one, Nat.mul_comm j]; omega
      have c3 : j * ((q + 1) * 2 ^ T) ≤ 9007199254740992 * 2 ^ T := by
        rw [← Nat.mul_assoc]; exact Nat.mul_le_mul_right _ c2
      have c4 : j * (4503599627370497 * 2 ^ kx y) = 4503599627370497 * (j * 2 ^ kx y) := Nat.mul_left_comm ..
      omega
    -- 2 i 2^T 2^T < (2 (q+1) 2^T - 2^k) j 2^T
    have g3 : up y + up (y + 1) + 2 ^ kx y = 2 * ((q + 1) * 2 ^ T) := by omega
    have g4 : (up y + up (y + 1)) * (j * 2 ^ T) + 2 ^ kx y * (j * 2 ^ T) = 2 * ((q + 1) * j * 2 ^ T * 2 ^ T) := by
      rw [← Nat.add_mul, g3, Nat.mul_assoc 2, Nat.mul_mul_mul_comm, Nat.mul_assoc ((q + 1) * j)]
    have g5 : 2 ^ kx y * (j * 2 ^ T) < 2 * (2 ^ T * 2 ^ T) := by
      rw [← Nat.mul_assoc, Nat.mul_comm _ j, ← Nat.mul_assoc 2]
      exact Nat.mul_lt_mul_of_pos_right g2 hp
    have g6 : (i + 1) * 2 ^ T * 2 ^ T ≤ (q + 1) * j * 2 ^ T * 2 ^ T := Nat.mul_le_mul_right _ (Nat.mul_le_mul_right _ d2)
    have g7 : (i + 1) * 2 ^ T * 2 ^ T = i * 2 ^ T * 2 ^ T + 2 ^ T * 2 ^ T := by rw [Nat.add_mul, Nat.one_mul, Nat.add_mul]
    omega
  refine ⟨r, hr, by omega, ?_⟩
  have l1 := up_le low
  have l2 := up_lt (show r < y + 1 by omega)
  rw [hq, Nat.div_eq_iff hp]
  rw [hx] at l1
  rw [hz, Nat.add_mul, Nat.one_mul] at l2
  omega
end Go.Proofs.Ytnikbaibchgmnaa
