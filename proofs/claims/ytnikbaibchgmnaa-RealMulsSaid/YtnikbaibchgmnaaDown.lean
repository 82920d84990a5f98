/-
  Down, Bits, Small, Bit, Beneath.
-/
import Derived.Test.YtnikbaibchgmnaaSums
import Derived.Test.YtnikbaibchgmnaaMath
namespace Go.Proofs.Ytnikbaibchgmnaa
open Go.RowKit

theorem two_digits (A i : Nat) : dig A i + dig A (i + 1) * 4294967296 = A / 4294967296 ^ i % 18446744073709551616 := by
  unfold dig
  rw [Nat.pow_succ, ← Nat.div_div_eq_div_mul]
  generalize A / 4294967296 ^ i = Y
  rw [show (18446744073709551616 : Nat) = 4294967296 * 4294967296 from rfl, Nat.mod_mul]
  omega
theorem down_split (A n : Nat) : A / 2 ^ n = A / 4294967296 ^ (n / 32) / 2 ^ (n % 32) := by
  rw [Nat.div_div_eq_div_mul, show (4294967296 : Nat) = 2 ^ 32 from rfl, ← Nat.pow_mul, ← Nat.pow_add, Nat.add_comm, Nat.mod_add_div]
theorem mod_div_two (Y r : Nat) (h : r ≤ 32) : Y % 18446744073709551616 / 2 ^ r % 4294967296 = Y / 2 ^ r % 4294967296 := by
  have e1 : (18446744073709551616 : Nat) = 2 ^ r * 2 ^ (64 - r) := by rw [← Nat.pow_add, show r + (64 - r) = 64 from by omega]
  have e2 : (2 : Nat) ^ (64 - r) = 4294967296 * 2 ^ (32 - r) := by rw [show (4294967296 : Nat) = 2 ^ 32 from rfl, ← Nat.pow_add]; congr 1; omega
  rw [e1, Nat.mod_mul_right_div_self, e2, Nat.mod_mul_right_mod]
theorem down_dig (A n j : Nat) : (dig A (n / 32 + j) + dig A (n / 32 + j + 1) * 4294967296) / 2 ^ (n % 32) % 4294967296 = dig (A / 2 ^ n) j := by
  rw [two_digits, mod_div_two _ _ (by omega), down_split A n]
  unfold dig
  rw [Nat.pow_add, ← Nat.div_div_eq_div_mul A]
  generalize A / 4294967296 ^ (n / 32) = Y
  rw [Nat.div_div_eq_div_mul Y, Nat.div_div_eq_div_mul Y, Nat.mul_comm]
theorem down_lt {A n k : Nat} (h : A < 4294967296 ^ k) : A / 2 ^ n < 4294967296 ^ (k - n / 32) := by
  by_cases hk : n / 32 ≤ k
  · rw [down_split]
    refine Nat.lt_of_le_of_lt (Nat.div_le_self _ _) ?_
    rw [Nat.div_lt_iff_lt_mul (Bpow_pos _), ← Nat.pow_add, Nat.sub_add_cancel hk]
    exact h
  · rw [show k - n / 32 = 0 from by omega, Nat.pow_zero, Nat.div_eq_of_lt]
    · decide
    · refine Nat.lt_of_lt_of_le h ?_
      rw [show (4294967296 : Nat) = 2 ^ 32 from rfl, ← Nat.pow_mul]
      exact Nat.pow_le_pow_right (by decide) (by omega)
set_option maxRecDepth 100000 in
set_option maxHeartbeats 1600000 in
theorem down_any (va : Value) (A n : Nat) (w : World) (hA : Ls w va A) (hAb : A < 4294967296 ^ 1000) (hn : n ≤ 100000) :
    Calls Try.prog 39 #[va, .int .i64 (n : Int)] w fun e w' => ∃ v', e = .returned v' ∧ Ls w' v' (A / 2 ^ n) ∧ Below w.heap.size w w' := by
  obtain ⟨i0, hi0, hz0, hz1, hz2⟩ := info_parts Try.info22
  obtain ⟨ka, hRa, hXa, hta⟩ := hA
  have bka := Ls.bound hta hAb
  obtain ⟨aa, capa, rfl, _, _⟩ := hRa.shapeR
  have HRa := hide hRa
  rw [ds_length] at HRa ⊢
  have HXa := hide hXa
  obtain ⟨q, hq⟩ : ∃ q, Hid (n / 32 = q) := ⟨_, rfl⟩
  obtain ⟨r, hr⟩ : ∃ r, Hid (n % 32 = r) := ⟨_, rfl⟩
  have hr32 : r < 32 := by have := unhide hr; omega
  obtain ⟨X, hX⟩ : ∃ X, Hid (A / 2 ^ n = X) := ⟨_, rfl⟩
  have HXl : Hid (X < 4294967296 ^ (ka - q)) := by unfold Hid; rw [← unhide hX, ← unhide hq]; exact down_lt hXa
  have HDG : Hid (∀ j, (dig A (q + j) + dig A (q + j + 1) * 4294967296) / 2 ^ r % 4294967296 = dig X j) := by
    unfold Hid; intro j; rw [← unhide hX, ← unhide hq, ← unhide hr]; exact down_dig A n j
  rw [unhide hX]
  have nq : (n : Int) / 32 = (q : Int) := by have := unhide hq; omega
  have nr : (n : Int) % 32 = (r : Int) := by have := unhide hr; omega
  have nq2 : (n : Int).tdiv 32 = (q : Int) := by rw [Int.tdiv_eq_ediv_of_nonneg (by omega)]; exact nq
  have nr2 : (n : Int).tmod 32 = (r : Int) := by rw [Int.tmod_eq_emod_of_nonneg (by omega)]; exact nr
  have hq3 : q ≤ 3125 := by have := unhide hq; omega
  clear hRa hXa hta hAb
  go_enter Try.func39, Try.ntmps39
  go_wp2
  go_loopg [5, 6] (ka - q) (fun k l s wr => ∃ (j : Nat), Hid (j + k = ka - q) ∧ s = .int .i64 ((q + j : Nat) : Int) ∧ Hid (Grows w l (ds X j) wr))
  case atStart => exact ⟨0, by unfold Hid; omega, rfl, Grows.start w _ (Below.refl _ _)⟩
  case round =>
    obtain ⟨j, hj, rfl, hG⟩ := hrel
    have hown := (unhide hG).1
    rw [ds_length] at hown
    have HO := hide hown
    clear hown
    obtain ⟨i, hi⟩ : ∃ i, Hid (q + j = i) := ⟨_, rfl⟩
    rw [unhide hi]
    have hjb : j ≤ 1000 := by have := unhide hj; omega
    by_cases hlt : i < ka
    · obtain ⟨b1, o1, rfl, hb1, cA0⟩ := (unhide HRa).at i (by rw [ds_length]; exact hlt)
      rw [ds_getD A ka i hlt] at cA0
      have cA : wr.cell? ⟨b1, o1 + i, none⟩ = some (.int .u64 (dig A i : Nat)) := ((unhide hG).2.cell (p := ⟨b1, o1 + i, none⟩) hb1).trans cA0
      have gB : Hid (i + 1 < ka → wr.cell? ⟨b1, o1 + (i + 1), none⟩ = some (.int .u64 (dig A (i + 1) : Nat))) := fun h => by
        obtain ⟨b2, o2, e, hb2, c2⟩ := (unhide HRa).at (i + 1) (by rw [ds_length]; exact h)
        simp only [Option.some.injEq, Addr.mk.injEq] at e
        obtain ⟨rfl, rfl, _⟩ := e
        rw [ds_getD A ka (i + 1) h] at c2
        exact ((unhide hG).2.cell (p := ⟨b1, o1 + (i + 1), none⟩) hb1).trans c2
      have hz : Hid (ka ≤ i + 1 → dig A (i + 1) = 0) := fun h => dig_big (unhide HXa) h
      clear cA0 hb1
      have a1 : (i : Int) < (ka : Int) := by omega
      have a0 : (0 : Int) ≤ (i : Int) := by omega
      have hda := dig_lt A i
      have hdb := dig_lt A (i + 1)
      have e1 := unhide HDG j
      rw [unhide hi] at e1
      have HS : Hid (∀ v1 w1 o, World.ownsRow w1 w.heap.size 22 1 v1 (j + 1) ((ds X j).map Wd ++ [.int .u64 (dig X j : Nat)]) → World.grownBy (wr.alloc o) w1 u5.ownBlock → Grows w v1 (ds X (j + 1)) w1) := fun v1 w1 o h1 h2 => by
        rw [ds_succ]
        exact (unhide hG).step h1 (by rw [ds_length]) rfl h2
      generalize dig X j = dS at *
      generalize dig A i = dA at *
      generalize dig A (i + 1) = dB at *
      have r1 : (r : Int) < 32 := by omega
      have r0 : (0 : Int) ≤ (r : Int) := by omega
      by_cases h2 : i + 1 < ka
      · have cB := unhide gB h2
        have a2 : ((i : Int) + 1) < (ka : Int) := by omega
        have bb := band_32 ((dA + dB * 4294967296) / 2 ^ r) (Nat.lt_of_le_of_lt (Nat.div_le_self _ _) (by omega))
        rw [e1] at bb
        have bs : ((dA : Int) + (dB : Int) * 4294967296) / 2 ^ r = (((dA + dB * 4294967296) / 2 ^ r : Nat) : Int) := by
          rw [Int.natCast_ediv, Int.natCast_pow]; rfl
        generalize (dA + dB * 4294967296) / 2 ^ r = Z at *
        clear e1 gB hz
        go_wp2_with (first | (at_builtin; refine wpList_append_own_at _ rfl _ _ 35 rfl w.heap.size 22 i0 (.int .u64 0) 1 8 Try.underlying35 hi0 hz0 hz1 hz2 rfl (by decide) _ _ _ rfl ((unhide HO).alloc _) ⟨wr.heap.size, 0, none⟩ 1 1 [.int .u64 (dS : Int)] rfl rfl (cell_one_new _ _ _) (by simp [Value.oneCell']) (by unfold maxLen; omega) (by omega) (by have := (unhide hG).2.size; simp; omega) ?_))
        intro v' w1 hown' hgrow hnil hat
        have HN := hide (unhide HS _ _ _ hown' hgrow)
        clear hown' hgrow hnil hat HS
        go_wp2
        go_roundg (gk - 1)
        case measure => have := unhide hj; have := unhide hi; omega
        case rel => exact ⟨j + 1, by have := unhide hj; have := unhide hi; unfold Hid; omega, by have := unhide hi; rw [show q + (j + 1) = i + 1 from by omega]; go_num, HN⟩
      · have z := unhide hz (by omega)
        subst z
        have a2 : decide (((i : Int) + 1) < (ka : Int)) = false := by rw [decide_eq_false_iff_not]; omega
        have a3 : ka ≤ i + 1 := by omega
        rw [Nat.zero_mul, Nat.add_zero] at e1
        have bb := band_32 (dA / 2 ^ r) (Nat.lt_of_le_of_lt (Nat.div_le_self _ _) (by omega))
        rw [e1] at bb
        have bs : (dA : Int) / 2 ^ r = ((dA / 2 ^ r : Nat) : Int) := by rw [Int.natCast_ediv, Int.natCast_pow]; rfl
        generalize dA / 2 ^ r = Z at *
        clear e1 gB hz
        go_wp2_with (first | (at_builtin; refine wpList_append_own_at _ rfl _ _ 35 rfl w.heap.size 22 i0 (.int .u64 0) 1 8 Try.underlying35 hi0 hz0 hz1 hz2 rfl (by decide) _ _ _ rfl ((unhide HO).alloc _) ⟨wr.heap.size, 0, none⟩ 1 1 [.int .u64 (dS : Int)] rfl rfl (cell_one_new _ _ _) (by simp [Value.oneCell']) (by unfold maxLen; omega) (by omega) (by have := (unhide hG).2.size; simp; omega) ?_))
        intro v' w1 hown' hgrow hnil hat
        have HN := hide (unhide HS _ _ _ hown' hgrow)
        clear hown' hgrow hnil hat HS
        go_wp2
        go_roundg (gk - 1)
        case measure => have := unhide hj; have := unhide hi; omega
        case rel => exact ⟨j + 1, by have := unhide hj; have := unhide hi; unfold Hid; omega, by have := unhide hi; rw [show q + (j + 1) = i + 1 from by omega]; go_num, HN⟩
    · have hkq : Hid (ka - q = j) := by have := unhide hj; have := unhide hi; unfold Hid; omega
      have a1 : ka ≤ i := by omega
      have HX2 : Hid (X < 4294967296 ^ j) := by have := unhide HXl; rw [unhide hkq] at this; exact this
      go_wp2_with fail
      refine (trim_any _ X j _ (Rd.of_own (unhide hG).1) (unhide HX2) (by omega)).mono ?_
      rintro e w2 ⟨v2, rfl, hL, rfl⟩
      have HL := hide hL
      clear hL
      go_wp2
      go_ret
      exact ⟨_, rfl, unhide HL, (unhide hG).2⟩
end Go.Proofs.Ytnikbaibchgmnaa
