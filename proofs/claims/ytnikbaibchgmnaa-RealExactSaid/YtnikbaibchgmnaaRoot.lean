/-
  The root of a square.
-/
import Derived.Test.YtnikbaibchgmnaaHalf
namespace Go.Proofs.Ytnikbaibchgmnaa
open Go.RowKit Ieee

theorem RN_err (n d : Nat) : 2 * (RN n d * 2 ^ d) ≤ 2 * n + 2 ^ d ∧ 2 * n ≤ 2 * (RN n d * 2 ^ d) + 2 ^ d := by
  have hm := Nat.div_add_mod n (2 ^ d)
  have hl := Nat.mod_lt n (Nat.two_pow_pos d)
  rw [Nat.mul_comm] at hm
  unfold RN
  generalize 2 ^ d = P at *
  generalize n % P = q at *
  generalize n / P = x at *
  split
  · rw [Nat.add_mul, Nat.one_mul]; omega
  · rw [Nat.add_zero]; omega
theorem up_mk (D K : Nat) (h1 : 4503599627370496 ≤ K) (h2 : K ≤ 9007199254740992) : up (D * 4503599627370496 + K) = K * 2 ^ D := by
  rw [up_eq]
  unfold mg kx
  rw [if_neg (by omega), if_neg (by omega)]
  by_cases h : K = 9007199254740992
  · subst h
    rw [show (D * 4503599627370496 + 9007199254740992) % 4503599627370496 = 0 from by omega, show (D * 4503599627370496 + 9007199254740992) / 4503599627370496 - 1 = D + 1 from by omega, Nat.pow_succ, Nat.mul_comm (2 ^ D) 2, ← Nat.mul_assoc]
  · rw [show (D * 4503599627370496 + K) % 4503599627370496 = K - 4503599627370496 from by omega, show (D * 4503599627370496 + K) / 4503599627370496 - 1 = D from by omega, show 4503599627370496 + (K - 4503599627370496) = K from by omega]

/-- The square, rounded to 53 digits. -/
theorem square (m : Nat) (h1 : 4503599627370496 ≤ m) (h2 : m < 9007199254740992) : ∃ d0 K, (m * m).log2 = d0 + 52 ∧ RN (m * m) d0 = K ∧ 52 ≤ d0 ∧ d0 ≤ 53 ∧ 4503599627370496 ≤ K ∧ K ≤ 9007199254740992 ∧
    4 * (K * 2 ^ d0) < (2 * m + 1) * (2 * m + 1) ∧ (m ≠ 4503599627370496 → (2 * m - 1) * (2 * m - 1) < 4 * (K * 2 ^ d0)) ∧ (m = 4503599627370496 → K * 2 ^ d0 = m * m) := by
  have hmm : 4503599627370496 * 4503599627370496 ≤ m * m := Nat.mul_le_mul h1 h1
  have hmm2 : m * m < 9007199254740992 * 9007199254740992 := Nat.mul_lt_mul'' h2 h2
  have hne : m * m ≠ 0 := by omega
  have a1 : 104 ≤ (m * m).log2 := (Nat.le_log2 hne).2 (Nat.le_trans (by decide) hmm)
  have a2 : (m * m).log2 < 106 := (Nat.log2_lt hne).2 (Nat.lt_of_lt_of_le hmm2 (by decide))
  obtain ⟨d0, hd⟩ : ∃ d0, (m * m).log2 = d0 + 52 := ⟨(m * m).log2 - 52, by omega⟩
  have e1 := log2_le' hne
  have e2 := log2_lt' hne
  rw [hd] at e1 e2 a1 a2
  have hp := Nat.two_pow_pos d0
  have q1 : 4503599627370496 ≤ m * m / 2 ^ d0 := by
    rw [Nat.le_div_iff_mul_le hp, Nat.mul_comm, show (4503599627370496 : Nat) = 2 ^ 52 from rfl, ← Nat.pow_add]; exact e1
  have q2 : m * m / 2 ^ d0 < 9007199254740992 := by
    rw [Nat.div_lt_iff_lt_mul hp, Nat.mul_comm, show (9007199254740992 : Nat) = 2 ^ 53 from rfl, ← Nat.pow_add, show 53 + d0 = d0 + 52 + 1 from by omega]; exact e2
  have k1 := RN_le (m * m) d0
  have k2 := RN_lt (m * m) d0
  obtain ⟨r1, r2⟩ := RN_err (m * m) d0
  have big : (2 * m + 1) * (2 * m + 1) = 4 * (m * m) + 4 * m + 1 := by
    rw [Nat.add_mul, Nat.mul_add, Nat.one_mul, Nat.mul_one, Nat.mul_mul_mul_comm]; omega
  have small : (2 * m - 1) * (2 * m - 1) + 4 * m = 4 * (m * m) + 1 := by
    obtain ⟨x, rfl⟩ : ∃ x, m = x + 1 := ⟨m - 1, by omega⟩
    rw [show 2 * (x + 1) - 1 = 2 * x + 1 from by omega]
    have : (2 * x + 1) * (2 * x + 1) = 4 * (x * x) + 4 * x + 1 := by
      rw [Nat.add_mul, Nat.mul_add, Nat.one_mul, Nat.mul_one, Nat.mul_mul_mul_comm]; omega
    have h3 : (x + 1) * (x + 1) = x * x + 2 * x + 1 := by
      rw [Nat.add_mul, Nat.mul_add, Nat.one_mul, Nat.mul_one]; omega
    rw [this, h3]; omega
  have pd : 2 ^ d0 = 4503599627370496 ∨ (2 ^ d0 = 9007199254740992 ∧ m ≠ 4503599627370496) := by
    obtain h | h : d0 = 52 ∨ d0 = 53 := by omega
    · left; rw [h]
    · right; refine ⟨by rw [h], ?_⟩
      rintro rfl
      rw [h] at e1
      exact absurd e1 (by decide)
  refine ⟨d0, RN (m * m) d0, hd, rfl, by omega, by omega, by omega, by omega, ?_, ?_, ?_⟩
  · rw [big]; omega
  · intro hm
    omega
  · rintro rfl
    obtain rfl : d0 = 52 := by
      obtain h | h : d0 = 52 ∨ d0 = 53 := by omega
      · exact h
      · rw [h] at e1; exact absurd e1 (by decide)
    decide

theorem sqrt_read (x M : Nat) (i : Int) (hx : double.read x = .number false M i) (hM : M ≠ 0) : double.sqrt x = some (double.write (.number false (2 * Datum.rootFrom (M <<< (108 - M.log2 + ((i - (108 - M.log2 : Nat)) % 2).toNat)) ((M <<< (108 - M.log2 + ((i - (108 - M.log2 : Nat)) % 2).toNat)).log2 / 2 + 1) 0 +
    (Datum.rootFrom (M <<< (108 - M.log2 + ((i - (108 - M.log2 : Nat)) % 2).toNat)) ((M <<< (108 - M.log2 + ((i - (108 - M.log2 : Nat)) % 2).toNat)).log2 / 2 + 1) 0 * Datum.rootFrom (M <<< (108 - M.log2 + ((i - (108 - M.log2 : Nat)) % 2).toNat)) ((M <<< (108 - M.log2 + ((i - (108 - M.log2 : Nat)) % 2).toNat)).log2 / 2 + 1) 0 != M <<< (108 - M.log2 + ((i - (108 - M.log2 : Nat)) % 2).toNat)).toNat) ((i - (108 - M.log2 + ((i - (108 - M.log2 : Nat)) % 2).toNat : Nat)) / 2 - 1))) := by
  show ((double.read x).root 54).map double.write = _
  rw [hx]
  simp only [Datum.root]
  rw [if_neg hM, if_neg (by simp)]
  rfl
/-- What the root is, where the number is normal. -/
theorem sqrt_normal (r : Nat) (h1 : 4503599627370496 ≤ r) (h2 : r < 9218868437227405312) : ∃ W N whole, sqrtN r = double.word false (R (W * 2 ^ (kx r / 2 + 509)) 1) ∧ N = mg r * 2 ^ (56 + kx r % 2) ∧ whole * whole ≤ N ∧ N < (whole + 1) * (whole + 1) ∧ W = 2 * whole + (whole * whole != N).toNat := by
  obtain ⟨sr, rr, Sr⟩ := pos_sg h2
  have hM : 4503599627370496 ≤ mg r := by unfold mg; rw [if_neg (by omega)]; omega
  have hM2 := mg_lt r
  have hl : (mg r).log2 = 52 := log2_of hM hM2
  have hrd := read_fin r (by rw [rr]; exact h2)
  rw [rr, sr] at hrd
  have hs := sqrt_read r (mg r) _ hrd (by omega)
  rw [hl] at hs
  have hb : ((-1074 + (kx r : Int) - ((108 - 52 : Nat) : Int)) % 2).toNat = kx r % 2 := by omega
  rw [hb, Nat.shiftLeft_eq, show 108 - 52 + kx r % 2 = 56 + kx r % 2 from rfl] at hs
  obtain ⟨N, hN⟩ : ∃ N, mg r * 2 ^ (56 + kx r % 2) = N := ⟨_, rfl⟩
  rw [hN] at hs
  obtain ⟨p1, p2⟩ := root_spec N
  generalize Datum.rootFrom N (N.log2 / 2 + 1) 0 = whole at hs p1 p2
  refine ⟨_, N, whole, ?_, hN.symm, p1, p2, rfl⟩
  unfold sqrtN
  rw [hs, Option.getD_some]
  exact write_R _ _ _ _ _ (by omega)

theorem bnd1 {d0 e : Nat} (h : 52 ≤ d0) (h1 : 523 ≤ e) : 1074 ≤ d0 + 2 * (e - 1) := by omega
theorem bnd2 {d0 e K : Nat} (h : d0 ≤ 53) (h1 : e < 1523) (hK : K ≤ 9007199254740992) : (d0 + 2 * (e - 1) - 1074) * 4503599627370496 + K ≤ 9218868437227405312 := by omega
theorem isqrt_lt {N whole y : Nat} (h : whole * whole ≤ N) (h2 : N < y * y) : whole < y := by
  rcases Nat.lt_or_ge whole y with h3 | h3
  · exact h3
  · have := Nat.mul_le_mul h3 h3; omega
theorem isqrt_ge {N whole y : Nat} (h : N < (whole + 1) * (whole + 1)) (h2 : y * y ≤ N) : y ≤ whole := by
  rcases Nat.lt_or_ge whole y with h3 | h3
  · have := Nat.mul_le_mul (show whole + 1 ≤ y from h3) (show whole + 1 ≤ y from h3); omega
  · exact h3
theorem sq_mul (x z : Nat) : (x * z) * (x * z) = (x * x) * (z * z) := Nat.mul_mul_mul_comm ..
set_option maxHeartbeats 1000000 in
/-- The root of a square. -/
theorem root_sq (a e f : Nat) (hf : f < 4503599627370496) (hr : rg a = e * 4503599627370496 + f) (h1 : 523 ≤ e) (h2 : e < 1523) : sqrtN (mulN a a) = rg a := by
  have hfin : rg a < 9218868437227405312 := by omega
  rw [mul_fin a a hfin hfin, Bool.xor_self]
  obtain ⟨m, hm⟩ : ∃ m, m = 4503599627370496 + f := ⟨_, rfl⟩
  have mga : mg (rg a) = m := by unfold mg; rw [if_neg (by omega), hr, hm]; omega
  have kxa : kx (rg a) = e - 1 := by unfold kx; rw [if_neg (by omega), hr]; omega
  have upa : up (rg a) = m * 2 ^ (e - 1) := by rw [up_eq, mga, kxa]
  obtain ⟨d0, K, hlog, hK, hd1, hd2, hK1, hK2, b1, b2, b3⟩ := square m (by omega) (by omega)
  have hmm : m * m ≠ 0 := by
    have := Nat.mul_le_mul (show 1 ≤ m by omega) (show 1 ≤ m by omega); omega
  have hn : up (rg a) * up (rg a) = m * m * 2 ^ (2 * (e - 1)) := by
    rw [upa, sq_mul, ← Nat.pow_add, Nat.two_mul]
  -- the rounded square
  have hR : R (up (rg a) * up (rg a)) 1074 = (d0 + 2 * (e - 1) - 1074) * 4503599627370496 + K := by
    rw [hn]
    unfold R
    rw [log2_mul_pow hmm, hlog, show d0 + 52 + 2 * (e - 1) - 52 = d0 + 2 * (e - 1) from by omega, Nat.max_eq_left (bnd1 hd1 h1), RN_scale, hK]
    exact Nat.min_eq_left (bnd2 hd2 h2 hK2)
  rw [hR]
  obtain ⟨D, hD⟩ : ∃ D, d0 + 2 * (e - 1) = D + 1074 := ⟨d0 + 2 * (e - 1) - 1074, by omega⟩
  rw [hD, Nat.add_sub_cancel]
  obtain ⟨r, hrr⟩ : ∃ r, D * 4503599627370496 + K = r := ⟨_, rfl⟩
  rw [hrr]
  have hup : up r = K * 2 ^ D := by rw [← hrr]; exact up_mk D K hK1 hK2
  have hw : double.word false r = r := rfl
  rw [hw]
  obtain ⟨W, N, whole, hs, hN, w1, w2, hW⟩ := sqrt_normal r (by omega) (by omega)
  rw [hs]
  obtain ⟨G, hG⟩ : ∃ G, kx r / 2 + 509 = G := ⟨_, rfl⟩
  rw [hG]
  -- N in the measure of the number
  have E : N * 2 ^ (2 * G) = K * 2 ^ d0 * 2 ^ (2 * (e - 1)) := by
    have x1 : mg r * 2 ^ kx r = K * 2 ^ D := by rw [← up_eq, hup]
    obtain ⟨T, hT⟩ : ∃ T, T = 1074 := ⟨_, rfl⟩
    have x2 : N * 2 ^ (2 * G) = mg r * 2 ^ kx r * 2 ^ T := by
      rw [hN, Nat.mul_assoc, Nat.mul_assoc, ← Nat.pow_add, ← Nat.pow_add, show 56 + kx r % 2 + 2 * G = kx r + T from by omega]
    rw [x2, x1, Nat.mul_assoc, Nat.mul_assoc, ← Nat.pow_add, ← Nat.pow_add, hD, hT]
  have hM : 4503599627370496 ≤ mg r := by unfold mg; rw [if_neg (by omega)]; omega
  have N1 : 2 ^ 108 ≤ N := by
    rw [hN]
    have := Nat.mul_le_mul hM (Nat.pow_le_pow_right (show 0 < 2 by decide) (show 56 ≤ 56 + kx r % 2 by omega))
    exact Nat.le_trans (by decide) this
  have hG2 : G + 3 ≤ e := by
    have c1 : (2 * m + 1) * (2 * m + 1) < 2 ^ 108 := Nat.lt_of_lt_of_le (Nat.mul_lt_mul'' (show 2 * m + 1 < 18014398509481984 by omega) (show 2 * m + 1 < 18014398509481984 by omega)) (by decide)
    have c2 : K * 2 ^ d0 < 2 ^ 106 := by omega
    have c3 : 2 ^ 108 * 2 ^ (2 * G) < 2 ^ 106 * 2 ^ (2 * (e - 1)) := Nat.lt_of_le_of_lt (Nat.mul_le_mul_right _ N1) (by rw [E]; exact Nat.mul_lt_mul_of_pos_right c2 (Nat.two_pow_pos _))
    rw [← Nat.pow_add, ← Nat.pow_add] at c3
    have := (Nat.pow_lt_pow_iff_right (show 1 < 2 by decide)).1 c3
    omega
  obtain ⟨c, hc⟩ : ∃ c, e - 1 = c + 1 + G := ⟨e - 2 - G, by omega⟩
  obtain ⟨Z, hZ⟩ : ∃ Z, 2 ^ c = Z := ⟨_, rfl⟩
  have hZp : 0 < Z := by rw [← hZ]; exact Nat.two_pow_pos c
  have E2 : N = 4 * (K * 2 ^ d0) * (Z * Z) := by
    rw [show 2 * (e - 1) = 2 + (c + c) + 2 * G from by omega, Nat.pow_add, Nat.pow_add, Nat.pow_add 2 c, hZ, ← Nat.mul_assoc] at E
    have := Nat.eq_of_mul_eq_mul_right (Nat.two_pow_pos _) E
    rw [this, Nat.mul_left_comm, Nat.mul_assoc 4]
  have hZZ : 0 < Z * Z := Nat.mul_pos hZp hZp
  -- not above
  have t1 : N < ((2 * m + 1) * Z) * ((2 * m + 1) * Z) := by
    rw [E2, sq_mul]; exact Nat.mul_lt_mul_of_pos_right b1 hZZ
  have u1 := isqrt_lt w1 t1
  have hWle : W < 2 * ((2 * m + 1) * Z) := by
    rw [hW]
    have : (whole * whole != N).toNat ≤ 1 := Bool.toNat_le _
    omega
  have hpw : 2 ^ (e - 1) = 2 * Z * 2 ^ G := by rw [hc, Nat.pow_add, Nat.pow_succ, hZ, Nat.mul_comm Z]
  have hle : R (W * 2 ^ G) 1 ≤ rg a := by
    refine R_lt_half (by omega) ?_
    rw [up_next, upa, mga, kxa, ← Nat.add_mul, hpw, Nat.pow_one]
    have : (m + (m + 1)) * (2 * Z * 2 ^ G) * 2 = 2 * (2 * ((2 * m + 1) * Z) * 2 ^ G) := by
      rw [show m + (m + 1) = 2 * m + 1 from by omega]
      generalize 2 * m + 1 = q
      rw [Nat.mul_comm _ 2, Nat.mul_assoc 2 Z, Nat.mul_left_comm q 2, Nat.mul_assoc 2 (q * Z), Nat.mul_assoc q Z]
    rw [this]
    exact Nat.mul_lt_mul_of_pos_left (Nat.mul_lt_mul_of_pos_right hWle (Nat.two_pow_pos G)) (by decide)
  -- not below
  have hge : rg a ≤ R (W * 2 ^ G) 1 := by
    by_cases hm0 : m = 4503599627370496
    · have e3 := b3 hm0
      have t2 : (2 * m * Z) * (2 * m * Z) ≤ N := by
        rw [E2, e3, sq_mul (2 * m) Z, Nat.mul_mul_mul_comm 2 m 2 m]
        exact Nat.le_refl _
      have u2 := isqrt_ge w2 t2
      refine R_ge (by omega) ?_
      rw [upa, hpw, Nat.pow_one]
      have : m * (2 * Z * 2 ^ G) * 2 = 2 * (2 * m * Z) * 2 ^ G := by
        rw [Nat.mul_comm _ 2, Nat.mul_assoc 2 Z, Nat.mul_left_comm m 2, Nat.mul_assoc 2 (2 * m * Z), Nat.mul_assoc (2 * m), Nat.mul_assoc 2 m]
      rw [this]
      exact Nat.mul_le_mul_right _ (by rw [hW]; omega)
    · have t2 : ((2 * m - 1) * Z) * ((2 * m - 1) * Z) < N := by
        rw [E2, sq_mul]; exact Nat.mul_lt_mul_of_pos_right (b2 hm0) hZZ
      have u2 := isqrt_ge w2 (Nat.le_of_lt t2)
      have hWgt : 2 * ((2 * m - 1) * Z) < W := by
        rw [hW]
        rcases Nat.lt_or_ge ((2 * m - 1) * Z) whole with h | h
        · omega
        · obtain rfl : whole = (2 * m - 1) * Z := by omega
          have : ((2 * m - 1) * Z * ((2 * m - 1) * Z) != N) = true := by rw [bne_iff_ne]; omega
          rw [this]
          show _ < _ + 1
          omega
      obtain ⟨q, hq⟩ : ∃ q, rg a = q + 1 := ⟨rg a - 1, by omega⟩
      rw [hq]
      refine R_gt_half (by omega) ?_
      have mq : mg q = m - 1 := by unfold mg; rw [if_neg (by omega)]; omega
      have kq : kx q = e - 1 := by unfold kx; rw [if_neg (by omega)]; omega
      rw [up_next, up_eq, mq, kq, ← Nat.add_mul, hpw, Nat.pow_one]
      have : (m - 1 + (m - 1 + 1)) * (2 * Z * 2 ^ G) * 2 = 2 * (2 * ((2 * m - 1) * Z) * 2 ^ G) := by
        rw [show m - 1 + (m - 1 + 1) = 2 * m - 1 from by omega]
        generalize 2 * m - 1 = q
        rw [Nat.mul_comm _ 2, Nat.mul_assoc 2 Z, Nat.mul_left_comm q 2, Nat.mul_assoc 2 (q * Z), Nat.mul_assoc q Z]
      rw [this]
      exact Nat.mul_lt_mul_of_pos_left (Nat.mul_lt_mul_of_pos_right hWgt (Nat.two_pow_pos G)) (by decide)
  have := Nat.le_antisymm hle hge
  rw [this]
  rfl
end Go.Proofs.Ytnikbaibchgmnaa
