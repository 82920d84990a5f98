/-
  Powers of two.
-/
import Derived.Test.YtnikbaibchgmnaaVal
namespace Go.Proofs.Ytnikbaibchgmnaa
open Go.RowKit Ieee

theorem pw_facts (u : Nat) (h1 : 1 ≤ u) (h2 : u ≤ 2046) : rg (u * 4503599627370496) = u * 4503599627370496 ∧ sg (u * 4503599627370496) = false ∧ u * 4503599627370496 < 9218868437227405312 ∧ mg (u * 4503599627370496) = 4503599627370496 ∧ kx (u * 4503599627370496) = u - 1 ∧ up (u * 4503599627370496) = 2 ^ (51 + u) := by
  have a1 : rg (u * 4503599627370496) = u * 4503599627370496 := Nat.mod_eq_of_lt (by omega)
  have a2 : mg (u * 4503599627370496) = 4503599627370496 := by unfold mg; rw [if_neg (by omega)]; omega
  have a3 : kx (u * 4503599627370496) = u - 1 := by unfold kx; rw [if_neg (by omega)]; omega
  refine ⟨a1, sg_false (by omega), by omega, a2, a3, ?_⟩
  rw [up_eq, a2, a3, show (4503599627370496 : Nat) = 2 ^ 52 from rfl, ← Nat.pow_add]
  congr 1; omega
/-- A product by a power of two. -/
theorem mul_pw (a u : Nat) (ha : rg a < 9218868437227405312) (h1 : 1 ≤ u) (h2 : u ≤ 2046) : mulN a (u * 4503599627370496) = double.word (sg a) (R (up (rg a) * 2 ^ (51 + u)) 1074) := by
  obtain ⟨e1, e2, e3, _, _, e6⟩ := pw_facts u h1 h2
  rw [mul_fin a _ ha (by rw [e1]; exact e3), e1, e2, e6, Bool.xor_false]
theorem dbl_div (x y : Nat) : double.div x y = ((double.read x).quotient 54 (double.read y)).map double.write := rfl
theorem log2_two_pow (k : Nat) : (2 ^ k : Nat).log2 = k := log2_of (Nat.le_refl _) (by rw [Nat.pow_succ]; have := Nat.two_pow_pos k; omega)
/-- A quotient by a power of two. -/
theorem div_pw (a u v : Nat) (ha : rg a < 9218868437227405312) (h1 : 23 ≤ u) (h2 : u ≤ 2023) (hv : u + v = 2046) : divN a (u * 4503599627370496) = double.word (sg a) (R (up (rg a) * 2 ^ (51 + v)) 1074) := by
  obtain ⟨e1, e2, e3, e4, e5, e6⟩ := pw_facts u (by omega) (by omega)
  unfold divN
  rw [dbl_div, read_fin a ha, read_fin (u * 4503599627370496) (by rw [e1]; exact e3), e1, e2, e4, e5]
  simp only [Datum.quotient]
  rw [if_neg (by omega)]
  simp only [Option.map_some, Option.getD_some, Bool.xor_false]
  have hl : Nat.log2 4503599627370496 = 52 := log2_two_pow 52
  have hm : (mg (rg a)).log2 ≤ 52 := by
    by_cases h0 : mg (rg a) = 0
    · rw [h0]; decide
    · have := (Nat.log2_lt h0).2 (show mg (rg a) < 2 ^ 53 from mg_lt _); omega
  rw [hl]
  obtain ⟨j, hj⟩ : ∃ j, 54 + 52 - (mg (rg a)).log2 = 52 + j := ⟨54 - (mg (rg a)).log2, by omega⟩
  rw [hj, Nat.shiftLeft_eq]
  have d1 : mg (rg a) * 2 ^ (52 + j) = (mg (rg a) * 2 ^ j) * 4503599627370496 := by
    rw [Nat.add_comm 52 j, Nat.pow_add, ← Nat.mul_assoc]
  rw [d1, Nat.mul_div_cancel _ (by decide), Nat.mul_mod_left]
  have d2 : 2 * (mg (rg a) * 2 ^ j) + ((0 : Nat) != 0).toNat = mg (rg a) * 2 ^ (j + 1) := by
    rw [Nat.mul_comm 2, Nat.pow_succ, Nat.mul_assoc]; rfl
  rw [d2, write_R _ _ _ (kx (rg a) + (51 + v)) (1074 + (j + 1)) (by omega)]
  have d3 : mg (rg a) * 2 ^ (j + 1) * 2 ^ (kx (rg a) + (51 + v)) = up (rg a) * 2 ^ (51 + v) * 2 ^ (j + 1) := by
    rw [up_eq, Nat.pow_add 2 (kx (rg a)), Nat.mul_assoc, Nat.mul_comm (2 ^ (j + 1)), ← Nat.mul_assoc, ← Nat.mul_assoc]
  rw [d3, R_scale]
theorem read_one : double.read 9221120237041090560 = .nan false 2251799813685248 := by decide +kernel
/-- Over a power of two is times its inverse. -/
theorem div_mul_pw (a u v : Nat) (h1 : 23 ≤ u) (h2 : u ≤ 2023) (hv : u + v = 2046) : divN a (u * 4503599627370496) = mulN a (v * 4503599627370496) := by
  rcases Nat.lt_trichotomy (rg a) 9218868437227405312 with h | h | h
  · rw [div_pw a u v h h1 h2 hv, mul_pw a v h (by omega) (by omega)]
  · obtain ⟨e1, e2, e3, e4, e5, e6⟩ := pw_facts u (by omega) (by omega)
    obtain ⟨f1, f2, f3, f4, f5, f6⟩ := pw_facts v (by omega) (by omega)
    unfold divN mulN Format.mul
    rw [dbl_div, read_inf a h, read_fin (u * 4503599627370496) (by rw [e1]; exact e3), read_fin (v * 4503599627370496) (by rw [f1]; exact f3), e1, e2, f1, f2, f4]
    rfl
  · have n : isN a = true := by rw [isN_eq, decide_eq_true h]
    rw [div_NL n, mul_NL n]
theorem pw_R (n s e : Nat) (h : e = 1 + s) : R (n * 2 ^ e) s = R (n * 2) 0 := by
  subst h
  have := R_scale (n * 2) 0 s
  rw [Nat.zero_add] at this
  rw [Nat.pow_add, ← Nat.mul_assoc]
  exact this
/-- Twice is times two. -/
theorem add_self (a : Nat) : addN a a = mulN a 4611686018427387904 := by
  have h2 : (4611686018427387904 : Nat) = 1024 * 4503599627370496 := rfl
  rcases Nat.lt_trichotomy (rg a) 9218868437227405312 with h | h | h
  · rw [h2, mul_pw a 1024 h (by omega) (by omega), add_fin a a h h, pw_R _ _ _ (show 51 + 1024 = 1 + 1074 from rfl), Bool.and_self]
    by_cases hz : S a + S a = 0
    · rw [if_pos hz]
      have : up (rg a) = 0 := by have := S_natAbs a; omega
      rw [this, Nat.zero_mul, R_zero]
    · rw [if_neg hz]
      have e1 : (S a + S a).natAbs = up (rg a) * 2 := by have := S_natAbs a; omega
      have e2 : decide (S a + S a < 0) = sg a := by
        have h3 := S_natAbs a
        unfold S at hz h3 ⊢
        cases hs : sg a
        · rw [hs] at hz; simp at hz ⊢; omega
        · rw [hs] at hz; simp at hz ⊢; omega
      rw [e1, e2]
  · unfold addN mulN Format.add Format.mul
    rw [read_inf a h, show double.read 4611686018427387904 = .number false 4503599627370496 (-51) from by decide +kernel]
    simp [Datum.sum, Datum.product]
  · have n : isN a = true := by rw [isN_eq, decide_eq_true h]
    rw [add_NL n, mul_NL n]
/-- By a power of two, within the normal numbers. -/
theorem scale_up (a e u t : Nat) (f : Nat) (hf : f < 4503599627370496) (hr : rg a = e * 4503599627370496 + f) (he : 1 ≤ e) (he2 : e ≤ 2046) (ht : 1 ≤ t) (ht2 : t ≤ 2046) (h1 : 23 ≤ u) (h2 : u ≤ 2023) (hu : t + 1023 = e + u) :
    mulN a (u * 4503599627370496) = double.word (sg a) (t * 4503599627370496 + f) := by
  rw [mul_pw a u (by omega) (by omega) (by omega)]
  refine congrArg (double.word (sg a)) ?_
  generalize hs : (1074 : Nat) = s
  have nrm : ∀ x, 1 ≤ x → up (x * 4503599627370496 + f) = (4503599627370496 + f) * 2 ^ (x - 1) := by
    intro x hx
    rw [up_eq]
    unfold mg kx
    rw [if_neg (by omega), if_neg (by omega)]
    have a1 : (x * 4503599627370496 + f) % 4503599627370496 = f := by omega
    have a2 : (x * 4503599627370496 + f) / 4503599627370496 = x := by omega
    rw [a1, a2]
  refine R_eq (by omega) ?_
  rw [hr, nrm e he, nrm t ht, Nat.mul_assoc, Nat.mul_assoc, ← Nat.pow_add, ← Nat.pow_add]
  congr 2
  omega
end Go.Proofs.Ytnikbaibchgmnaa
