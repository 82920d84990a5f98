/-
  Bits, Small, Bit, Beneath.
-/
import Derived.Test.YtnikbaibchgmnaaDown
namespace Go.Proofs.Ytnikbaibchgmnaa
open Go.RowKit

/-- How many bits a number has. -/
def bl (X : Nat) : Nat := if X = 0 then 0 else X.log2 + 1
theorem bl_div {t j : Nat} (h : j < bl t) : t / 2 ^ j ≠ 0 := by
  unfold bl at h
  split at h
  · omega
  · rename_i h0
    have := log2_le' h0
    have h2 : 2 ^ j ≤ t := Nat.le_trans (Nat.pow_le_pow_right (by decide) (by omega)) this
    have := (Nat.le_div_iff_mul_le (Nat.two_pow_pos j)).2 (show 1 * 2 ^ j ≤ t by omega)
    omega
theorem bl_end (t : Nat) : t / 2 ^ bl t = 0 := by
  unfold bl
  split
  · rename_i h; subst h; rfl
  · rename_i h; exact Nat.div_eq_of_lt (log2_lt' h)
theorem bl_top {A k : Nat} (h1 : A < 4294967296 ^ (k + 1)) (h2 : 4294967296 ^ k ≤ A) : bl A = 32 * k + bl (dig A k) ∧ dig A k ≠ 0 ∧ bl (dig A k) ≤ 32 := by
  have e : (4294967296 : Nat) ^ k = 2 ^ (32 * k) := by rw [show (4294967296 : Nat) = 2 ^ 32 from rfl, ← Nat.pow_mul]
  have hd := top_dig h1
  have hp := Bpow_pos k
  have hd0 : dig A k ≠ 0 := by
    rw [hd]
    have := (Nat.le_div_iff_mul_le hp).2 (show 1 * 4294967296 ^ k ≤ A by omega)
    omega
  have hA0 : A ≠ 0 := by omega
  have hlt := dig_lt A k
  refine ⟨?_, hd0, ?_⟩
  · unfold bl
    rw [if_neg hA0, if_neg hd0]
    have l1 := log2_le' hd0
    have l2 := log2_lt' hd0
    generalize (dig A k).log2 = t at *
    have : A.log2 = 32 * k + t := by
      have hm := Nat.div_add_mod A (4294967296 ^ k)
      have hml := Nat.mod_lt A hp
      rw [← hd] at hm
      refine log2_of ?_ ?_
      · rw [Nat.pow_add, ← e]
        have := Nat.mul_le_mul_left (4294967296 ^ k) l1
        omega
      · rw [show 32 * k + t + 1 = 32 * k + (t + 1) from rfl, Nat.pow_add, ← e]
        have := Nat.mul_le_mul_left (4294967296 ^ k) (show dig A k + 1 ≤ 2 ^ (t + 1) from l2)
        rw [Nat.mul_add, Nat.mul_one] at this
        omega
    omega
  · unfold bl
    rw [if_neg hd0]
    have := (Nat.log2_lt hd0).2 (show dig A k < 2 ^ 32 from hlt)
    omega
set_option maxRecDepth 100000 in
set_option maxHeartbeats 1600000 in
theorem rbits_any (va : Value) (A : Nat) (w : World) (hA : Ls w va A) (hAb : A < 4294967296 ^ 1000) :
    Calls Try.prog 40 #[va] w fun e w' => e = .returned (.int .i64 (bl A : Nat)) ∧ w' = w := by
  obtain ⟨ka, hRa, hXa, hta⟩ := hA
  have bka := Ls.bound hta hAb
  obtain ⟨aa, capa, rfl, _, _⟩ := hRa.shapeR
  have HRa := hide hRa
  rw [ds_length] at HRa ⊢
  by_cases h0 : ka = 0
  · subst h0
    have : A = 0 := by simpa using hXa
    subst this
    clear hRa hXa hta hAb HRa
    go_enter Try.func40, Try.ntmps40
    go_wp2
    go_ret
    exact ⟨rfl, rfl⟩
  · obtain ⟨k, rfl⟩ : ∃ k, ka = k + 1 := ⟨ka - 1, by omega⟩
    obtain ⟨e1, e2, e3⟩ := bl_top hXa (by rcases hta with h | h; omega; simpa using h)
    obtain ⟨b1, o1, rfl, hb1, cA⟩ := (unhide HRa).at k (by rw [ds_length]; omega)
    rw [ds_getD A (k + 1) k (by omega)] at cA
    obtain ⟨t, ht⟩ : ∃ t, dig A k = t := ⟨_, rfl⟩
    rw [ht] at e1 e2 e3 cA
    have htl : Hid (t < 4294967296) := by unfold Hid; rw [← ht]; exact dig_lt A k
    rw [e1]
    have i4 : ((k + 1 : Nat) : Int) - 1 = (k : Int) := by omega
    have i2 : (0 : Int) ≤ (k : Int) := by omega
    have i3 : (k : Int) < ((k + 1 : Nat) : Int) := by omega
    have i5 : (((k + 1 : Nat) : Int) == 0) = false := by rw [beq_eq_false_iff_ne]; omega
    have i6 : ((k : Int) + 1 == 0) = false := by rw [beq_eq_false_iff_ne]; omega
    obtain ⟨M, hM⟩ : ∃ M, Hid (bl t = M) := ⟨_, rfl⟩
    rw [unhide hM] at e3 ⊢
    clear hRa hXa hta hAb HRa ht e1 e2 hb1 h0
    go_enter Try.func40, Try.ntmps40
    go_wp2
    go_loopg [3, 4] M (fun g s x wr => ∃ (j : Nat), Hid (j + g = M) ∧ s = .int .i64 ((32 * k + j : Nat) : Int) ∧ x = .int .u64 (t / 2 ^ j : Nat) ∧ wr = w)
    case atStart => exact ⟨0, by unfold Hid; omega, by go_num, by simp, rfl⟩
    case round =>
      obtain ⟨j, hj, rfl, rfl, rfl⟩ := hrel
      by_cases hlt : j < M
      · have hx := bl_div (t := t) (j := j) (by rw [unhide hM]; exact hlt)
        have hxl : t / 2 ^ j < 4294967296 := Nat.lt_of_le_of_lt (Nat.div_le_self _ _) (unhide htl)
        have hx2 : Hid (t / 2 ^ j / 2 = t / 2 ^ (j + 1)) := by unfold Hid; rw [Nat.div_div_eq_div_mul, ← Nat.pow_succ]
        obtain ⟨y, hy⟩ : ∃ y, Hid (t / 2 ^ (j + 1) = y) := ⟨_, rfl⟩
        rw [unhide hy] at hx2
        have y1 : ((t / 2 ^ j : Nat) : Int) / 2 = (y : Int) := by rw [← unhide hx2]; rfl
        generalize t / 2 ^ j = x at *
        have g1 : (0 : Int) < (x : Int) := by omega
        have g2 : 0 < x := by omega
        clear hx hx2
        go_wp2
        go_roundg (gk - 1)
        case measure => have := unhide hj; omega
        case rel => exact ⟨j + 1, by have := unhide hj; unfold Hid; omega, by go_num, by rw [unhide hy], rfl⟩
      · obtain rfl : j = M := by have := unhide hj; omega
        have hx := bl_end t
        rw [unhide hM] at hx
        rw [hx]
        clear hx
        go_wp2
        go_ret
        exact ⟨rfl, rfl⟩

set_option maxRecDepth 100000 in
set_option maxHeartbeats 800000 in
theorem small_any (va : Value) (A : Nat) (w : World) (hA : Ls w va A) (h : A < 18446744073709551616) :
    Calls Try.prog 41 #[va] w fun e w' => e = .returned (.int .u64 (A : Nat)) ∧ w' = w := by
  obtain ⟨k, hRa, hXa, hta⟩ := hA
  obtain ⟨aa, capa, rfl, _, _⟩ := hRa.shapeR
  have HRa := hide hRa
  rw [ds_length] at HRa ⊢
  have hk : k ≤ 2 := by
    rcases hta with h1 | h1
    · omega
    · rcases Nat.lt_or_ge 2 k with h2 | h2
      · have := Nat.pow_le_pow_right (show 0 < 4294967296 by decide) (show 2 ≤ k - 1 by omega)
        have h3 : (4294967296 : Nat) ^ 2 = 18446744073709551616 := by decide
        omega
      · exact h2
  clear hRa hta
  obtain rfl | rfl | rfl : k = 0 ∨ k = 1 ∨ k = 2 := by omega
  · have : A = 0 := by simpa using hXa
    subst this
    clear HRa hXa h
    go_enter Try.func41, Try.ntmps41
    go_wp2
    go_ret
    exact ⟨rfl, rfl⟩
  · obtain ⟨b1, o1, rfl, hb1, cA⟩ := (unhide HRa).at 0 (by rw [ds_length]; omega)
    rw [ds_getD A 1 0 (by omega), show dig A 0 = A from by unfold dig; simp at hXa ⊢; omega, Nat.add_zero] at cA
    clear HRa hXa hb1
    go_enter Try.func41, Try.ntmps41
    go_wp2
    go_ret
    exact ⟨rfl, rfl⟩
  · obtain ⟨b1, o1, rfl, hb1, cA⟩ := (unhide HRa).at 0 (by rw [ds_length]; omega)
    obtain ⟨b2, o2, e2, hb2, cB⟩ := (unhide HRa).at 1 (by rw [ds_length]; omega)
    simp only [Option.some.injEq, Addr.mk.injEq] at e2
    obtain ⟨rfl, rfl, _⟩ := e2
    rw [ds_getD A 2 0 (by omega), show dig A 0 = A % 4294967296 from by unfold dig; simp, Nat.add_zero] at cA
    rw [ds_getD A 2 1 (by omega), show dig A 1 = A / 4294967296 from by unfold dig; simp; omega] at cB
    have hs : A % 4294967296 + A / 4294967296 * 4294967296 = A := by omega
    have hx : A % 4294967296 < 4294967296 := Nat.mod_lt _ (by decide)
    have hy : A / 4294967296 < 4294967296 := by omega
    obtain ⟨x, hxe⟩ : ∃ x, A % 4294967296 = x := ⟨_, rfl⟩
    obtain ⟨y, hye⟩ : ∃ y, A / 4294967296 = y := ⟨_, rfl⟩
    rw [hxe] at cA hs hx
    rw [hye] at cB hs hy
    have hs2 : (x : Int) + (y : Int) * 4294967296 = (A : Int) := by omega
    clear HRa hXa hb1 hb2 hxe hye hs
    go_enter Try.func41, Try.ntmps41
    go_wp2
    go_ret
    first | exact ⟨rfl, rfl⟩ | (refine ⟨?_, rfl⟩; go_num)

theorem bit_dig (A n : Nat) : dig A (n / 32) / 2 ^ (n % 32) % 2 = A / 2 ^ n % 2 := by
  rw [down_split A n]
  unfold dig
  generalize A / 4294967296 ^ (n / 32) = Y
  have hr : n % 32 < 32 := Nat.mod_lt _ (by decide)
  generalize n % 32 = r at *
  have e1 : (4294967296 : Nat) = 2 ^ r * (2 * 2 ^ (31 - r)) := by
    rw [show 2 * 2 ^ (31 - r) = 2 ^ (31 - r + 1) from by rw [Nat.pow_succ, Nat.mul_comm], ← Nat.pow_add, show r + (31 - r + 1) = 32 from by omega]
  rw [e1, Nat.mod_mul_right_div_self, Nat.mod_mul_right_mod]
theorem band_1 (x : Nat) (h : x < 18446744073709551616) : bits .and .u64 (x : Int) 1 = ((x % 2 : Nat) : Int) := by
  go_bits2
set_option maxRecDepth 100000 in
set_option maxHeartbeats 800000 in
theorem bit_any (va : Value) (A n : Nat) (w : World) (hA : Ls w va A) (hn : n ≤ 100000) :
    Calls Try.prog 51 #[va, .int .i64 (n : Int)] w fun e w' => e = .returned (.int .u64 (A / 2 ^ n % 2 : Nat)) ∧ w' = w := by
  obtain ⟨k, hRa, hXa, hta⟩ := hA
  obtain ⟨aa, capa, rfl, hcc, hcm⟩ := hRa.shapeR
  have HRa := hide hRa
  rw [ds_length] at HRa ⊢
  have hb := bit_dig A n
  have hbig : Hid (k ≤ n / 32 → A / 2 ^ n = 0) := fun h => by
    refine Nat.div_eq_of_lt (Nat.lt_of_lt_of_le hXa ?_)
    rw [show (4294967296 : Nat) = 2 ^ 32 from rfl, ← Nat.pow_mul]
    exact Nat.pow_le_pow_right (by decide) (by omega)
  obtain ⟨q, hq⟩ : ∃ q, n / 32 = q := ⟨_, rfl⟩
  obtain ⟨r, hr⟩ : ∃ r, n % 32 = r := ⟨_, rfl⟩
  have nq : (n : Int) / 32 = (q : Int) := by omega
  have nr : (n : Int) % 32 = (r : Int) := by omega
  have nq2 : (n : Int).tdiv 32 = (q : Int) := by rw [Int.tdiv_eq_ediv_of_nonneg (by omega)]; exact nq
  have nr2 : (n : Int).tmod 32 = (r : Int) := by rw [Int.tmod_eq_emod_of_nonneg (by omega)]; exact nr
  have r1 : (r : Int) < 32 := by omega
  have r0 : (0 : Int) ≤ (r : Int) := by omega
  rw [hq, hr] at hb
  rw [hq] at hbig
  have hkm : k ≤ maxLen := by rw [ds_length] at hcc; omega
  clear hRa hta hcc hcm hXa
  by_cases hk : k ≤ q
  · rw [unhide hbig hk]
    have a1 : (k : Int) ≤ (q : Int) := by omega
    clear hbig hb hq hr HRa
    go_enter Try.func51, Try.ntmps51
    go_wp2
    go_ret
    exact ⟨rfl, rfl⟩
  · obtain ⟨b1, o1, rfl, hb1, cA⟩ := (unhide HRa).at q (by rw [ds_length]; omega)
    rw [ds_getD A k q (by omega)] at cA
    have hd := dig_lt A q
    have bb := band_1 (dig A q / 2 ^ r) (Nat.lt_of_le_of_lt (Nat.div_le_self _ _) (by omega))
    rw [hb] at bb
    have bs : ((dig A q : Nat) : Int) / 2 ^ r = ((dig A q / 2 ^ r : Nat) : Int) := by rw [Int.natCast_ediv, Int.natCast_pow]; rfl
    generalize A / 2 ^ n % 2 = Y at *
    generalize dig A q / 2 ^ r = Z at *
    generalize dig A q = dA at *
    have a1 : q < k := by omega
    have a2 : (q : Int) < (k : Int) := by omega
    have a0 : (0 : Int) ≤ (q : Int) := by omega
    clear hbig hb hq hr HRa hb1 hk
    go_enter Try.func51, Try.ntmps51
    go_wp2
    go_ret
    exact ⟨rfl, rfl⟩

theorem low_step (A j : Nat) (h : A % 2 ^ j = 0) : (A / 2 ^ j % 2 = 0 → A % 2 ^ (j + 1) = 0) ∧ (∀ n, j < n → A / 2 ^ j % 2 = 1 → A % 2 ^ n ≠ 0) := by
  refine ⟨fun h2 => by rw [Nat.pow_succ, Nat.mod_mul, h, h2, Nat.mul_zero], fun n hn h2 h3 => ?_⟩
  have hd : 2 ^ (j + 1) ∣ A := Nat.dvd_trans (Nat.pow_dvd_pow 2 hn) (Nat.dvd_of_mod_eq_zero h3)
  have : A % 2 ^ (j + 1) = 0 := Nat.mod_eq_zero_of_dvd hd
  rw [Nat.pow_succ, Nat.mod_mul, h, h2] at this
  have := Nat.two_pow_pos j
  omega
set_option maxRecDepth 100000 in
set_option maxHeartbeats 1600000 in
theorem beneath_any (va : Value) (A n : Nat) (w : World) (hA : Ls w va A) (hAb : A < 4294967296 ^ 1000) (hn : n ≤ 100000) :
    Calls Try.prog 53 #[va, .int .i64 (n : Int)] w fun e w' => e = .returned (.bool (A % 2 ^ n != 0)) ∧ w' = w := by
  have HA := hide hA
  obtain ⟨k, hRa, hXa, hta⟩ := hA
  have bka := Ls.bound hta hAb
  obtain ⟨aa, capa, rfl, _, _⟩ := hRa.shapeR
  rw [ds_length] at HA ⊢
  have HX : Hid (A < 2 ^ (32 * k)) := by unfold Hid; rw [Nat.pow_mul]; exact hXa
  obtain ⟨N, hN⟩ : ∃ N, Hid (min n (32 * k) = N) := ⟨_, rfl⟩
  obtain ⟨res, hres⟩ : ∃ r, Hid ((A % 2 ^ n != 0) = r) := ⟨_, rfl⟩
  rw [unhide hres]
  clear hRa hXa hta hAb
  go_enter Try.func53, Try.ntmps53
  go_wp2
  go_loopg [5] N (fun g s wr => ∃ (j : Nat), Hid (j + g = N) ∧ s = .int .i64 (j : Int) ∧ Hid (A % 2 ^ j = 0) ∧ wr = w)
  case atStart => exact ⟨0, by unfold Hid; omega, rfl, by unfold Hid; simp [Nat.mod_one], rfl⟩
  case round =>
    obtain ⟨j, hj, rfl, hZ, rfl⟩ := hrel
    by_cases hlt : j < N
    · have cB := hide (bit_any _ A j wr (unhide HA) (by have := unhide hN; omega))
      obtain ⟨s1, s2⟩ := low_step A j (unhide hZ)
      have a1 : (j : Int) < (n : Int) := by have := unhide hN; omega
      have a2 : (j : Int) < 32 * (k : Int) := by have := unhide hN; omega
      have hb2 : A / 2 ^ j % 2 = 0 ∨ A / 2 ^ j % 2 = 1 := by omega
      rcases hb2 with hb | hb
      · have HZ2 := hide (s1 hb)
        rw [hb] at cB
        clear s1 s2 hb
        go_wp2_with fail
        refine (unhide cB).mono ?_
        rintro e w2 ⟨rfl, rfl⟩
        go_wp2
        go_roundg (gk - 1)
        case measure => have := unhide hj; omega
        case rel => exact ⟨j + 1, by have := unhide hj; unfold Hid; omega, by go_num, HZ2, rfl⟩
      · have hr1 : Hid (res = true) := by
          unfold Hid; rw [← unhide hres, bne_iff_ne]; exact s2 n (by have := unhide hN; omega) hb
        rw [hb] at cB
        clear s1 s2 hb
        go_wp2_with fail
        refine (unhide cB).mono ?_
        rintro e w2 ⟨rfl, rfl⟩
        go_wp2
        go_ret
        exact ⟨by rw [unhide hr1]; rfl, rfl⟩
    · have hr1 : Hid (res = false) := by
        unfold Hid
        rw [← unhide hres, bne_eq_false_iff_eq]
        have h1 := unhide hj
        have h2 := unhide hN
        have h3 := unhide hZ
        by_cases hjn : j = n
        · rw [← hjn]; exact h3
        · have : A = 0 := by
            have h4 : j = 32 * k := by omega
            rw [h4, Nat.mod_eq_of_lt (unhide HX)] at h3
            exact h3
          rw [this]; simp
      by_cases hjn : j < n
      · have a1 : (j : Int) < (n : Int) := by omega
        have a2 : decide ((j : Int) < 32 * (k : Int)) = false := by rw [decide_eq_false_iff_not]; have := unhide hN; have := unhide hj; omega
        go_wp2
        go_ret
        exact ⟨by rw [unhide hr1]; rfl, rfl⟩
      · have a1 : n ≤ j := by omega
        clear hlt
        go_wp2
        go_ret
        exact ⟨by rw [unhide hr1]; rfl, rfl⟩
end Go.Proofs.Ytnikbaibchgmnaa
