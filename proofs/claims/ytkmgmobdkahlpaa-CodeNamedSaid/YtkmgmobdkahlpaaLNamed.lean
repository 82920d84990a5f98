/-
  All names.
-/
import Derived.Test.YtkmgmobdkahlpaaFind
namespace Go.Proofs.Ytkmgmobdkahlpaa
open Go.RowKit
theorem bool_eql (b c : Bool) (w : World) : (binOp .eql 4 (.bool b) (.bool c)).run Try.prog w = .ok (.bool (b == c)) w := by cases b <;> cases c <;> kernel_rfl
theorem bool_neq (b c : Bool) (w : World) : (binOp .neq 4 (.bool b) (.bool c)).run Try.prog w = .ok (.bool (b != c)) w := by cases b <;> cases c <;> kernel_rfl

theorem nm_apart (k : Nat) (h : k < 67) : ∀ j, j < k → nm j ≠ nm k := by
  have : ∀ k : Fin 67, (List.range k.val).all (fun j => !((nm j).data.toList == (nm k.val).data.toList)) = true := by decide +kernel
  intro j hj e
  have h1 := List.all_eq_true.1 (this ⟨k, h⟩) j (List.mem_range.2 hj)
  rw [e] at h1
  simp at h1
theorem nm_len (k : Nat) (h : k < 67) : 2 ≤ (nm k).size ∧ (nm k).size ≤ 8 := by
  have : ∀ k : Fin 67, 2 ≤ (nm k.val).size ∧ (nm k.val).size ≤ 8 := by decide +kernel
  exact this ⟨k, h⟩
theorem nm_small (k : Nat) (h : k < 67) (i : Nat) (hi : i < (nm k).size) : 97 ≤ ((nm k)[i]'hi).toNat ∧ ((nm k)[i]'hi).toNat ≤ 122 := by
  have : ∀ k : Fin 67, (nm k.val).data.toList.all (fun b => decide (97 ≤ b.toNat ∧ b.toNat ≤ 122)) = true := by decide +kernel
  have h1 := List.all_eq_true.1 (this ⟨k, h⟩) ((nm k)[i]'hi) (by
    have : (nm k)[i]'hi = (nm k).data.toList[i]'(by simpa using hi) := by simp [ByteArray.getElem_eq_getElem_data]
    rw [this]; exact List.getElem_mem _)
  simpa using h1

set_option maxRecDepth 100000 in
set_option maxHeartbeats 2000000 in
theorem namedLaw (w : World) : Calls Try.prog 7 #[] w fun e w' => e = .returned (.bool true) ∧ Below w.heap.size w w' := by
  have HN := hide name_any
  have HF := hide find_any
  have e4 := bool_eql
  have e5 := bool_neq
  go_enter Try.func7, Try.ntmps7
  go_wp2
  go_loopg [1] 83 (fun g t1 wr => ∃ (i : Nat), Hid (i + g = 83) ∧ t1 = .int .i64 ((i : Int) - 3) ∧ wr = w)
  case atStart => exact ⟨0, rfl, rfl, rfl⟩
  case round =>
    obtain ⟨i, hi, rfl, rfl⟩ := hrel
    by_cases hlt : i < 83
    · have h80 : (i : Int) - 3 < 80 := by omega
      have ew : IntKind.i64.wrap ((i : Int) - 3 + 1) = (i : Int) - 3 + 1 := by rw [IntKind.wrap_i64]; omega
      by_cases hop : 0 ≤ (i : Int) - 3 ∧ (i : Int) - 3 < 67
      · obtain ⟨k, hik⟩ : ∃ k : Nat, i = k + 3 := ⟨i - 3, by omega⟩
        have hk : k < 67 := by omega
        have hkk : (i : Int) - 3 = (k : Int) := by omega
        rw [hkk] at h80 ew ⊢
        have hk0 : (0 : Int) ≤ (k : Int) := by omega
        have hk1 : (k : Int) < 67 := by omega
        have h1 := unhide HN wr (k : Int)
        rw [nmI_nat hk, isOp_nat hk] at h1
        have H1 := hide h1
        have HA := hide (nm_apart k hk)
        obtain ⟨hl, hl8⟩ := nm_len k hk
        have HS := hide (nm_small k hk)
        have HK := hide hkk
        clear h1 hop hkk hik
        have hk' : k < 67 := by omega
        obtain ⟨s, hs⟩ : ∃ s, Hid (s = nm k) := ⟨_, rfl⟩
        rw [← unhide hs] at H1 HA hl hl8 HS
        have hl2 : decide ((s.size : Int) < 2) = false := by simp; omega
        go_wp2_with fail
        refine (unhide H1).mono ?_
        rintro e w1 ⟨rfl, rfl⟩
        go_wp2_with fail
        refine (unhide HF _ _).mono ?_
        rintro e w2 ⟨⟨a2, b2, rfl, hf2⟩, rfl⟩
        have hu : Fd s (k : Int) true := ⟨fun _ => ⟨k, hk, rfl, (unhide hs).symm, unhide HA⟩, (fun e => by cases e)⟩
        obtain ⟨rfl, rfl⟩ := hf2.unique hu
        clear hf2 hu
        go_wp2_with fail
        obtain ⟨g0, hg0⟩ : ∃ g0 : Nat, Hid (g0 = gk) := ⟨_, rfl⟩
        have hi0 : Hid (i + g0 = 83 ∧ i < 83) := ⟨by rw [unhide hg0]; exact unhide hi, by omega⟩
        clear hi
        go_loopg [6] s.size (fun g t6 wr => ∃ (i : Nat), Hid (i + g = s.size) ∧ t6 = .int .i64 (i : Int) ∧ wr = w2)
        case atStart => exact ⟨0, by unfold Hid; omega, rfl, rfl⟩
        case round =>
          obtain ⟨i2, hi2, rfl, rfl⟩ := hrel
          by_cases h2 : i2 < s.size
          · obtain ⟨q1, q2⟩ := unhide HS i2 h2
            obtain ⟨c, hc⟩ : ∃ c : Nat, Hid (c = (s[i2]'h2).toNat) := ⟨_, rfl⟩
            have hb : ∀ h, (s[i2]'h).toNat = c := fun h => (unhide hc).symm
            rw [← unhide hc] at q1 q2
            clear hc
            go_wp2_with fail
            go_roundg (gk - 1)
            case measure => have := unhide hi2; omega
            case rel => exact ⟨i2 + 1, by have := unhide hi2; unfold Hid; omega, by go_num, rfl⟩
          · have hi0' : i2 = s.size := by have := unhide hi2; omega
            subst hi0'
            go_wp2_with fail
            go_roundg (g0 - 1)
            case measure => have h1 := unhide hi0; have h2 := unhide hg0; omega
            case rel => exact ⟨i + 1, by have := unhide hi0; unfold Hid; omega, by rw [← unhide HK]; go_num, rfl⟩
      · have h1 := unhide HN wr ((i : Int) - 3)
        rw [nmI_no hop, isOp_no hop] at h1
        have H1 := hide h1
        have hor : (i : Int) - 3 < 0 ∨ (0 ≤ (i : Int) - 3 ∧ 67 ≤ (i : Int) - 3) := by omega
        obtain ⟨o, ho⟩ : ∃ o, Hid (o = (i : Int) - 3) := ⟨_, rfl⟩
        rw [← unhide ho] at H1 hor h80 ew ⊢
        have HL := hide hlt
        clear h1 hop hlt
        rcases hor with h0 | ⟨h0, h67⟩
        all_goals
          go_wp2_with fail
          refine (unhide H1).mono ?_
          rintro e w1 ⟨rfl, rfl⟩
          go_wp2_with fail
          go_roundg (gk - 1)
          case measure => have := unhide hi; have := unhide HL; omega
          case rel => exact ⟨i + 1, by have := unhide hi; have := unhide HL; unfold Hid; omega, by rw [unhide ho]; go_num, rfl⟩
    · have hi0 : i = 83 := by have := unhide hi; omega
      subst hi0
      go_wp2_with fail
      go_ret
      exact ⟨rfl, Below.refl _ _⟩
end Go.Proofs.Ytkmgmobdkahlpaa
