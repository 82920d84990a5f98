/-
  laid, near.
-/
import Derived.Test.YtnikbaibchgmnaaBits
import Derived.Test.YtnikbaibchgmnaaUp
import Derived.Test.YtnikbaibchgmnaaParts
import Derived.Test.YtnikbaibchgmnaaRoot
namespace Go.Proofs.Ytnikbaibchgmnaa
open Go.RowKit Ieee

set_option maxRecDepth 100000 in
set_option maxHeartbeats 1600000 in
theorem laid_any (m G : Nat) (hm : m < 9007199254740992) (hG : G ≤ 2045) (w : World) :
    Calls Try.prog 49 #[.int .u64 (m : Int), .int .i64 (-1074 + (G : Int))] w fun e w' => ∃ r, e = .returned (.int .u64 (r : Nat)) ∧ up r = m * 2 ^ G ∧ w' = w := by
  by_cases h0 : m = 0
  · subst h0
    clear hm hG
    go_enter Try.func49, Try.ntmps49
    go_wp2
    go_ret
    exact ⟨0, rfl, by rw [up_zero, Nat.zero_mul], rfl⟩
  · have g0 : ((m : Int) == 0) = false := by rw [beq_eq_false_iff_ne]; omega
    obtain ⟨V, hV⟩ : ∃ V, Hid (m * 2 ^ G = V) := ⟨_, rfl⟩
    rw [unhide hV]
    have HM := hide hm
    clear h0 hm
    go_enter Try.func49, Try.ntmps49
    go_wp2
    go_loopg [0, 1] G (fun g s t wr => ∃ (M : Nat), s = .int .u64 (M : Int) ∧ t = .int .i64 (-1074 + (g : Int)) ∧ Hid (M * 2 ^ g = V) ∧ Hid (M < 9007199254740992) ∧ g ≤ G ∧ wr = w)
    case atStart => exact ⟨m, rfl, rfl, hV, HM, Nat.le_refl _, rfl⟩
    case round =>
      obtain ⟨M, rfl, rfl, hMV, hM2, hgG, rfl⟩ := hrel
      have hM3 := unhide hM2
      by_cases h1 : M < 4503599627370496
      · have a1 : (M : Int) < 4503599627370496 := by omega
        by_cases hg : gk = 0
        · subst hg
          have hu : Hid (up M = V) := by
            unfold Hid
            rw [← unhide hMV, Nat.pow_zero, Nat.mul_one]
            unfold up
            rw [if_pos h1]
          clear h1
          go_wp2
          go_ret
          exact ⟨M, rfl, unhide hu, rfl⟩
        · obtain ⟨g, rfl⟩ : ∃ g, gk = g + 1 := ⟨gk - 1, by omega⟩
          obtain ⟨E, hE⟩ : ∃ E : Int, -1074 + ((g + 1 : Nat) : Int) = E := ⟨_, rfl⟩
          rw [hE]
          have a2 : (-1074 : Int) < E := by omega
          have a3 : E ≤ 1000 := by omega
          have HE : Hid (-1074 + (g : Int) = E - 1) := by unfold Hid; omega
          have hN : Hid (M * 2 * 2 ^ g = V) := by unfold Hid; rw [← unhide hMV, Nat.pow_succ, Nat.mul_assoc, Nat.mul_comm 2]
          have hN2 : Hid (M * 2 < 9007199254740992) := by unfold Hid; omega
          clear h1 hg hE
          go_wp2
          go_roundg g
          case measure => omega
          case rel => exact ⟨M * 2, by go_num, by rw [unhide HE], hN, hN2, by omega, rfl⟩
      · have a1 : decide ((M : Int) < 4503599627370496) = false := by rw [decide_eq_false_iff_not]; omega
        have hu : Hid (up (gk * 4503599627370496 + M) = V) := by unfold Hid; rw [← unhide hMV]; exact up_mk gk M (by omega) (by omega)
        have hb1 : (gk : Int) ≤ 2045 := by omega
        have hb2 : (4503599627370496 : Int) ≤ (M : Int) := by omega
        have hb3 : (M : Int) < 9007199254740992 := by omega
        clear h1
        go_wp2
        go_ret
        exact ⟨gk * 4503599627370496 + M, by go_num, unhide hu, rfl⟩

theorem near_rn (N D : Nat) (c : Bool) : RN (2 * N + c.toNat) (D + 2) = N / 2 ^ (D + 1) + (if N / 2 ^ D % 2 = 1 ∧ (c = true ∨ N % 2 ^ D ≠ 0 ∨ N / 2 ^ (D + 1) % 2 = 1) then 1 else 0) := by
  have hc : c.toNat ≤ 1 := Bool.toNat_le _
  have e0 : (2 : Nat) ^ (D + 2) = 2 * 2 ^ (D + 1) := by rw [Nat.pow_succ, Nat.mul_comm]
  have e1 : (2 : Nat) ^ (D + 1) = 2 * 2 ^ D := by rw [Nat.pow_succ, Nat.mul_comm]
  have hp := Nat.two_pow_pos D
  have q1 : (2 * N + c.toNat) / 2 ^ (D + 2) = N / 2 ^ (D + 1) := by
    rw [e0, ← Nat.div_div_eq_div_mul, show (2 * N + c.toNat) / 2 = N from by omega]
  have q2 : (2 * N + c.toNat) % 2 ^ (D + 2) = 2 * (N % 2 ^ (D + 1)) + c.toNat := by
    rw [e0, Nat.mod_mul, show (2 * N + c.toNat) / 2 = N from by omega]; omega
  have q3 : N % 2 ^ (D + 1) = N % 2 ^ D + 2 ^ D * (N / 2 ^ D % 2) := by rw [Nat.pow_succ, Nat.mod_mul]
  have q4 := Nat.mod_lt N hp
  unfold RN
  rw [q1, q2, q3, e0, e1]
  congr 1
  have hb : N / 2 ^ D % 2 = 0 ∨ N / 2 ^ D % 2 = 1 := by omega
  generalize N / 2 ^ D % 2 = b at *
  generalize N % 2 ^ D = y at *
  generalize N / (2 * 2 ^ D) = z at *
  generalize 2 ^ D = h at *
  rcases hb with rfl | rfl
  · rw [if_neg, if_neg]
    · rintro ⟨h1, _⟩; omega
    · rintro (h1 | ⟨h1, _⟩) <;> omega
  · by_cases h2 : c = true ∨ y ≠ 0 ∨ z % 2 = 1
    · have L : 2 * (2 * h) < 2 * (2 * (y + h * 1) + c.toNat) ∨ 2 * (2 * h) = 2 * (2 * (y + h * 1) + c.toNat) ∧ z % 2 = 1 := by
        rcases h2 with rfl | h2 | h2
        · left; simp; omega
        · left; omega
        · by_cases h3 : c.toNat = 0 ∧ y = 0
          · right; exact ⟨by omega, h2⟩
          · left; omega
      rw [if_pos L, if_pos ⟨rfl, h2⟩]
    · have h3 : c = false := by cases c; rfl; exact absurd (.inl rfl) h2
      have h4 : y = 0 := by
        by_cases h5 : y = 0
        · exact h5
        · exact absurd (.inr (.inl h5)) h2
      have h6 : ¬ z % 2 = 1 := fun h => h2 (.inr (.inr h))
      have L : ¬ (2 * (2 * h) < 2 * (2 * (y + h * 1) + c.toNat) ∨ 2 * (2 * h) = 2 * (2 * (y + h * 1) + c.toNat) ∧ z % 2 = 1) := by
        subst h3 h4
        rintro (h7 | ⟨_, h7⟩)
        · simp at h7
        · exact h6 h7
      rw [if_neg L, if_neg (fun h => h2 h.2)]
/-- What near finds: the digits that are kept, at the place L. -/
def kept (N : Nat) (c : Bool) (d : Int) : Nat := if d ≤ 0 then N * 2 ^ (-d).toNat else RN (2 * N + c.toNat) (d.toNat + 1)
theorem bl_pos {N : Nat} (h : N ≠ 0) : bl N = N.log2 + 1 := if_neg h
theorem bl_le' {N K : Nat} (h : N < 4294967296 ^ K) : bl N ≤ 32 * K := by
  unfold bl
  split
  · omega
  · rename_i h0
    have h2 : N < 2 ^ (32 * K) := by rw [Nat.pow_mul]; exact h
    have := (Nat.log2_lt h0).2 h2
    omega
theorem bl_le {N : Nat} (h : N < 4294967296 ^ 1000) : bl N ≤ 32000 := bl_le' (K := 1000) h
end Go.Proofs.Ytnikbaibchgmnaa
