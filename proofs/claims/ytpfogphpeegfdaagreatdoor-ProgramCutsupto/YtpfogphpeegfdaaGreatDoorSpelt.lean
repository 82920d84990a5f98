/-
  Names.
-/
import Derived.Test.YtpfogphpeegfdaaGreatDoorSmall2
namespace Go.Proofs.YtpfogphpeegfdaaGreatDoor
open Go.RowKit
set_option linter.unusedVariables false
set_option linter.unusedSimpArgs false
/-- A byte of a right name. -/
def letN (b : Nat) : Bool := decide ((97 ≤ b ∧ b ≤ 122) ∨ (65 ≤ b ∧ b ≤ 90) ∨ (48 ≤ b ∧ b ≤ 57) ∨ b = 95)
/-- Are all bytes of a name right, and is there one? -/
def allL (s : ByteArray) : Bool := decide (∀ i, (h : i < s.size) → letN (s[i]).toNat = true)
def spB (s : ByteArray) : Bool := allL s && decide (0 < s.size)
theorem nine (b : Nat) (hb : b < 256) : (0 ≤ b ∧ b ≤ 47) ∨ (48 ≤ b ∧ b ≤ 57) ∨ (58 ≤ b ∧ b ≤ 64) ∨ (65 ≤ b ∧ b ≤ 90) ∨ (91 ≤ b ∧ b ≤ 94) ∨ (95 ≤ b ∧ b ≤ 95) ∨ (96 ≤ b ∧ b ≤ 96) ∨ (97 ≤ b ∧ b ≤ 122) ∨ (123 ≤ b ∧ b ≤ 255) := by omega
set_option maxRecDepth 100000 in
set_option maxHeartbeats 6400000 in
theorem spelt_any (s : ByteArray) (hs : s.size ≤ 9223372036854775807) (w : World) : Calls Tryz.prog 124 #[.string s] w fun e w' => e = .returned (.bool (spB s)) ∧ w' = w := by
  obtain ⟨r, hr⟩ : ∃ r, Hid (spB s = r) := ⟨_, rfl⟩
  rw [unhide hr]
  go_enter Tryz.func124, Tryz.ntmps124
  go_wp2_with fail
  go_loopg [7] s.size (fun gg t7 wr => ∃ (i : Nat), Hid (i + gg = s.size) ∧ t7 = .int .i64 (i : Int) ∧ wr = w ∧ Hid (∀ j, (h : j < s.size) → j < i → letN (s[j]).toNat = true))
  case atStart => exact ⟨0, by unfold Hid; omega, rfl, rfl, by unfold Hid; intro j h hj; omega⟩
  case round =>
    obtain ⟨i, hi, rfl, rfl, hM⟩ := hrel
    by_cases hlt : i < s.size
    · have i0 : (0 : Int) ≤ (i : Int) := by omega
      have i1 : (i : Int) < (s.size : Int) := by omega
      have hb256 : (s[i]).toNat < 256 := (s[i]).toNat_lt
      rcases nine (s[i]).toNat hb256 with ⟨u, v⟩ | ⟨u, v⟩ | ⟨u, v⟩ | ⟨u, v⟩ | ⟨u, v⟩ | ⟨u, v⟩ | ⟨u, v⟩ | ⟨u, v⟩ | ⟨u, v⟩
      · have hL : Hid (letN (s[i]).toNat = false) := by unfold letN Hid; exact decide_eq_false (by omega)
        have q1 : decide ((97 : Int) ≤ ((s[i]).toNat : Int)) = false := decide_eq_false (by omega)
        have q2 : decide ((65 : Int) ≤ ((s[i]).toNat : Int)) = false := decide_eq_false (by omega)
        have q3 : decide ((48 : Int) ≤ ((s[i]).toNat : Int)) = false := decide_eq_false (by omega)
        have q4 : ((s[i]).toNat : Int) ≤ (122 : Int) := by omega
        have q5 : ((s[i]).toNat : Int) ≤ (90 : Int) := by omega
        have q6 : ((s[i]).toNat : Int) ≤ (57 : Int) := by omega
        have q7 : (((s[i]).toNat : Int) == 95) = false := beq_eq_false_iff_ne.2 (by omega)
        clear u v hb256
        obtain rfl : r = false := by
          rw [← unhide hr]
          have : allL s = false := decide_eq_false (fun k => by have := k i hlt; rw [unhide hL] at this; cases this)
          simp [spB, this]
        go_wp2_with fail
        go_ret
        exact ⟨rfl, rfl⟩
      · have hL : Hid (letN (s[i]).toNat = true) := by unfold letN Hid; exact decide_eq_true (by omega)
        have q1 : decide ((97 : Int) ≤ ((s[i]).toNat : Int)) = false := decide_eq_false (by omega)
        have q2 : decide ((65 : Int) ≤ ((s[i]).toNat : Int)) = false := decide_eq_false (by omega)
        have q3 : (48 : Int) ≤ ((s[i]).toNat : Int) := by omega
        have q4 : ((s[i]).toNat : Int) ≤ (122 : Int) := by omega
        have q5 : ((s[i]).toNat : Int) ≤ (90 : Int) := by omega
        have q6 : ((s[i]).toNat : Int) ≤ (57 : Int) := by omega
        have q7 : (((s[i]).toNat : Int) == 95) = false := beq_eq_false_iff_ne.2 (by omega)
        clear u v hb256
        go_wp2_with fail
        go_roundg (gk - 1)
        case measure => have := unhide hi; omega
        case rel => exact ⟨i + 1, by have := unhide hi; unfold Hid; omega, by go_num, rfl, by
          unfold Hid
          intro j h hj
          by_cases q : j = i
          · subst q; exact unhide hL
          · exact unhide hM j h (by omega)⟩
      · have hL : Hid (letN (s[i]).toNat = false) := by unfold letN Hid; exact decide_eq_false (by omega)
        have q1 : decide ((97 : Int) ≤ ((s[i]).toNat : Int)) = false := decide_eq_false (by omega)
        have q2 : decide ((65 : Int) ≤ ((s[i]).toNat : Int)) = false := decide_eq_false (by omega)
        have q3 : (48 : Int) ≤ ((s[i]).toNat : Int) := by omega
        have q4 : ((s[i]).toNat : Int) ≤ (122 : Int) := by omega
        have q5 : ((s[i]).toNat : Int) ≤ (90 : Int) := by omega
        have q6 : decide (((s[i]).toNat : Int) ≤ (57 : Int)) = false := decide_eq_false (by omega)
        have q7 : (((s[i]).toNat : Int) == 95) = false := beq_eq_false_iff_ne.2 (by omega)
        clear u v hb256
        obtain rfl : r = false := by
          rw [← unhide hr]
          have : allL s = false := decide_eq_false (fun k => by have := k i hlt; rw [unhide hL] at this; cases this)
          simp [spB, this]
        go_wp2_with fail
        go_ret
        exact ⟨rfl, rfl⟩
      · have hL : Hid (letN (s[i]).toNat = true) := by unfold letN Hid; exact decide_eq_true (by omega)
        have q1 : decide ((97 : Int) ≤ ((s[i]).toNat : Int)) = false := decide_eq_false (by omega)
        have q2 : (65 : Int) ≤ ((s[i]).toNat : Int) := by omega
        have q3 : (48 : Int) ≤ ((s[i]).toNat : Int) := by omega
        have q4 : ((s[i]).toNat : Int) ≤ (122 : Int) := by omega
        have q5 : ((s[i]).toNat : Int) ≤ (90 : Int) := by omega
        have q6 : decide (((s[i]).toNat : Int) ≤ (57 : Int)) = false := decide_eq_false (by omega)
        have q7 : (((s[i]).toNat : Int) == 95) = false := beq_eq_false_iff_ne.2 (by omega)
        clear u v hb256
        go_wp2_with fail
        go_roundg (gk - 1)
        case measure => have := unhide hi; omega
        case rel => exact ⟨i + 1, by have := unhide hi; unfold Hid; omega, by go_num, rfl, by
          unfold Hid
          intro j h hj
          by_cases q : j = i
          · subst q; exact unhide hL
          · exact unhide hM j h (by omega)⟩
      · have hL : Hid (letN (s[i]).toNat = false) := by unfold letN Hid; exact decide_eq_false (by omega)
        have q1 : decide ((97 : Int) ≤ ((s[i]).toNat : Int)) = false := decide_eq_false (by omega)
        have q2 : (65 : Int) ≤ ((s[i]).toNat : Int) := by omega
        have q3 : (48 : Int) ≤ ((s[i]).toNat : Int) := by omega
        have q4 : ((s[i]).toNat : Int) ≤ (122 : Int) := by omega
        have q5 : decide (((s[i]).toNat : Int) ≤ (90 : Int)) = false := decide_eq_false (by omega)
        have q6 : decide (((s[i]).toNat : Int) ≤ (57 : Int)) = false := decide_eq_false (by omega)
        have q7 : (((s[i]).toNat : Int) == 95) = false := beq_eq_false_iff_ne.2 (by omega)
        clear u v hb256
        obtain rfl : r = false := by
          rw [← unhide hr]
          have : allL s = false := decide_eq_false (fun k => by have := k i hlt; rw [unhide hL] at this; cases this)
          simp [spB, this]
        go_wp2_with fail
        go_ret
        exact ⟨rfl, rfl⟩
      · have hL : Hid (letN (s[i]).toNat = true) := by unfold letN Hid; exact decide_eq_true (by omega)
        have q1 : decide ((97 : Int) ≤ ((s[i]).toNat : Int)) = false := decide_eq_false (by omega)
        have q2 : (65 : Int) ≤ ((s[i]).toNat : Int) := by omega
        have q3 : (48 : Int) ≤ ((s[i]).toNat : Int) := by omega
        have q4 : ((s[i]).toNat : Int) ≤ (122 : Int) := by omega
        have q5 : decide (((s[i]).toNat : Int) ≤ (90 : Int)) = false := decide_eq_false (by omega)
        have q6 : decide (((s[i]).toNat : Int) ≤ (57 : Int)) = false := decide_eq_false (by omega)
        have q7 : (((s[i]).toNat : Int) == 95) = true := beq_iff_eq.2 (by omega)
        clear u v hb256
        go_wp2_with fail
        go_roundg (gk - 1)
        case measure => have := unhide hi; omega
        case rel => exact ⟨i + 1, by have := unhide hi; unfold Hid; omega, by go_num, rfl, by
          unfold Hid
          intro j h hj
          by_cases q : j = i
          · subst q; exact unhide hL
          · exact unhide hM j h (by omega)⟩
      · have hL : Hid (letN (s[i]).toNat = false) := by unfold letN Hid; exact decide_eq_false (by omega)
        have q1 : decide ((97 : Int) ≤ ((s[i]).toNat : Int)) = false := decide_eq_false (by omega)
        have q2 : (65 : Int) ≤ ((s[i]).toNat : Int) := by omega
        have q3 : (48 : Int) ≤ ((s[i]).toNat : Int) := by omega
        have q4 : ((s[i]).toNat : Int) ≤ (122 : Int) := by omega
        have q5 : decide (((s[i]).toNat : Int) ≤ (90 : Int)) = false := decide_eq_false (by omega)
        have q6 : decide (((s[i]).toNat : Int) ≤ (57 : Int)) = false := decide_eq_false (by omega)
        have q7 : (((s[i]).toNat : Int) == 95) = false := beq_eq_false_iff_ne.2 (by omega)
        clear u v hb256
        obtain rfl : r = false := by
          rw [← unhide hr]
          have : allL s = false := decide_eq_false (fun k => by have := k i hlt; rw [unhide hL] at this; cases this)
          simp [spB, this]
        go_wp2_with fail
        go_ret
        exact ⟨rfl, rfl⟩
      · have hL : Hid (letN (s[i]).toNat = true) := by unfold letN Hid; exact decide_eq_true (by omega)
        have q1 : (97 : Int) ≤ ((s[i]).toNat : Int) := by omega
        have q2 : (65 : Int) ≤ ((s[i]).toNat : Int) := by omega
        have q3 : (48 : Int) ≤ ((s[i]).toNat : Int) := by omega
        have q4 : ((s[i]).toNat : Int) ≤ (122 : Int) := by omega
        have q5 : decide (((s[i]).toNat : Int) ≤ (90 : Int)) = false := decide_eq_false (by omega)
        have q6 : decide (((s[i]).toNat : Int) ≤ (57 : Int)) = false := decide_eq_false (by omega)
        have q7 : (((s[i]).toNat : Int) == 95) = false := beq_eq_false_iff_ne.2 (by omega)
        clear u v hb256
        go_wp2_with fail
        go_roundg (gk - 1)
        case measure => have := unhide hi; omega
        case rel => exact ⟨i + 1, by have := unhide hi; unfold Hid; omega, by go_num, rfl, by
          unfold Hid
          intro j h hj
          by_cases q : j = i
          · subst q; exact unhide hL
          · exact unhide hM j h (by omega)⟩
      · have hL : Hid (letN (s[i]).toNat = false) := by unfold letN Hid; exact decide_eq_false (by omega)
        have q1 : (97 : Int) ≤ ((s[i]).toNat : Int) := by omega
        have q2 : (65 : Int) ≤ ((s[i]).toNat : Int) := by omega
        have q3 : (48 : Int) ≤ ((s[i]).toNat : Int) := by omega
        have q4 : decide (((s[i]).toNat : Int) ≤ (122 : Int)) = false := decide_eq_false (by omega)
        have q5 : decide (((s[i]).toNat : Int) ≤ (90 : Int)) = false := decide_eq_false (by omega)
        have q6 : decide (((s[i]).toNat : Int) ≤ (57 : Int)) = false := decide_eq_false (by omega)
        have q7 : (((s[i]).toNat : Int) == 95) = false := beq_eq_false_iff_ne.2 (by omega)
        clear u v hb256
        obtain rfl : r = false := by
          rw [← unhide hr]
          have : allL s = false := decide_eq_false (fun k => by have := k i hlt; rw [unhide hL] at this; cases this)
          simp [spB, this]
        go_wp2_with fail
        go_ret
        exact ⟨rfl, rfl⟩
    · have hiL : i = s.size := by have := unhide hi; omega
      have hal : allL s = true := decide_eq_true (fun j h => unhide hM j h (by omega))
      have hres : r = decide (0 < s.size) := by rw [← unhide hr]; simp [spB, hal]
      have i1 : decide ((i : Int) < (s.size : Int)) = false := decide_eq_false (by omega)
      have hte : s.toList.length = s.size := by rw [ByteArray.toList_eq]; exact Array.length_toList
      by_cases h0 : s.size = 0
      · obtain rfl : r = false := by rw [hres]; simp [h0]
        have q9 : s.toList.isEmpty = true := by rw [List.isEmpty_iff]; exact List.eq_nil_of_length_eq_zero (by omega)
        have H0 := hide h0
        clear h0 hte hal hres hiL
        go_wp2_with fail
        go_ret
        refine ⟨?_, rfl⟩
        first | (simp [q9]; done) | (have := unhide H0; simp [q9]; omega)
      · obtain rfl : r = true := by rw [hres]; exact decide_eq_true (by omega)
        have q9 : s.toList.isEmpty = false := by
          cases e : s.toList with
          | nil => rw [e] at hte; simp at hte; omega
          | cons a b => rfl
        have H0 := hide h0
        clear h0 hte hal hres hiL
        go_wp2_with fail
        go_ret
        refine ⟨?_, rfl⟩
        first | (simp [q9]; done) | (have := unhide H0; simp [q9]; omega)
end Go.Proofs.YtpfogphpeegfdaaGreatDoor
