/-
  Whole numbers there and back: the walk.
-/
import Derived.Test.YtakjojgclohocaaDoorDNought
namespace Go.Proofs.YtakjojgclohocaaDoor
open Go.RowKit

set_option maxHeartbeats 2000000 in
set_option maxRecDepth 100000 in
theorem nought_any (s : ByteArray) (w : World) (hmx : s.size ≤ 9223372036854775807) (hd : Hid (allD (s.data.toList.drop (sgn s.data.toList)) = true)) :
    Calls Tryd.prog 8 #[.string s] w fun e w' => e = .returned (.string ⟨(nl s.data.toList).toArray⟩) ∧ w' = w := by
  have hL := hide (Lib.size_eq s)
  obtain ⟨M, hM⟩ : ∃ M : List UInt8, Hid (M = s.data.toList.drop (sgn s.data.toList)) := ⟨_, rfl⟩
  obtain ⟨N, hN⟩ : ∃ N : Bool, Hid (N = ngt s.data.toList) := ⟨_, rfl⟩
  obtain ⟨a, ha⟩ : ∃ a : Nat, Hid (a = sgn s.data.toList) := ⟨_, rfl⟩
  have hM0 : Hid (0 < M.length) := by
    unfold Hid
    cases hm : M with
    | nil => have := unhide hd; rw [← unhide hM, hm, allD_nil] at this; cases this
    | cons a t => simp
  have hML : Hid (M.length + a = s.size) := by
    unfold Hid
    rw [unhide hM, unhide ha, List.length_drop, unhide hL]
    have := sgn_le s.data.toList
    omega
  have hs0 : 0 < s.size := by have := unhide hM0; have := unhide hML; omega
  have hl0 : 0 < s.data.toList.length := by rw [← unhide hL]; exact hs0
  have hb0 := hide (byte_at s 0 hs0)
  have hSg : Hid (a = if bt s.data.toList 0 = 45 ∨ bt s.data.toList 0 = 43 then 1 else 0) := by rw [unhide ha]; exact sgn_bt hl0
  have hNg : Hid (N = decide (bt s.data.toList 0 = 45)) := by rw [unhide hN]; exact ngt_bt hl0
  have hix : Hid (∀ (i : Nat) (hi : a + i < s.size), (s[a + i]'hi).toNat = bt M i) := fun i hi => by rw [byte_at, unhide hM, unhide ha, bt_drop]
  have hex : Hid (∀ j, s.extract (a + j) s.size = ⟨(M.drop j).toArray⟩) := fun j => by
    rw [Lib.extract_eq, unhide hM, unhide ha, List.drop_drop, unhide hL, List.take_of_length_le (by simp)]
  have hnl : Hid (nl s.data.toList = if N = true ∧ nz M ≠ [48] then 45 :: nz M else nz M) := by unfold Hid nl; rw [unhide hM, unhide hN]
  obtain ⟨R, hR⟩ : ∃ R, Hid (R = nl s.data.toList) := ⟨_, rfl⟩
  rw [← unhide hR] at hnl ⊢
  obtain ⟨b0, hbb⟩ : ∃ b0, Hid (b0 = bt s.data.toList 0) := ⟨_, rfl⟩
  rw [← unhide hbb] at hSg hNg hb0
  clear hR hd hM hN ha hl0 hbb
  have i0 : (0 : Int) < (s.size : Int) := by omega
  have hbI : ((s[0]'hs0).toNat : Int) = (b0 : Int) := by rw [unhide hb0]
  clear hb0
  have hcase : (b0 = 45 ∧ a = 1 ∧ N = true) ∨ (b0 = 43 ∧ a = 1 ∧ N = false) ∨ (((b0 : Int) == 45) = false ∧ ((b0 : Int) == 43) = false ∧ a = 0 ∧ N = false) := by
    have h1 := unhide hSg
    have h2 := unhide hNg
    by_cases h45 : b0 = 45
    · rw [if_pos (.inl h45)] at h1
      rw [decide_eq_true h45] at h2
      exact .inl ⟨h45, h1, h2⟩
    · rw [decide_eq_false h45] at h2
      by_cases h43 : b0 = 43
      · rw [if_pos (.inr h43)] at h1
        exact .inr (.inl ⟨h43, h1, h2⟩)
      · rw [if_neg (by omega)] at h1
        exact .inr (.inr ⟨by rw [beq_eq_false_iff_ne]; omega, by rw [beq_eq_false_iff_ne]; omega, h1, h2⟩)
  have ha1 : Hid (a ≤ 1) := by rcases hcase with h | h | h <;> (unfold Hid; omega)
  clear hSg hNg
  have hloop : Hid (∀ j, j < M.length → ∀ w : World, True) := fun _ _ _ => trivial
  clear hloop
  rcases hcase with ⟨rfl, hA, rfl⟩ | ⟨rfl, hA, rfl⟩ | ⟨q1, q2, hA, rfl⟩
  all_goals
    have HA := hide hA
    clear hA
    go_enter Tryd.func8, Tryd.ntmps8
    go_wp2
    go_loopg [4] M.length (fun k i wr => wr = w ∧ ∃ j : Nat, Hid (j + k = M.length) ∧ Hid (j < M.length) ∧ i = .int .i64 ((a + j : Nat) : Int) ∧ Hid (nz (M.drop j) = nz M))
    case atStart => exact ⟨rfl, 0, by unfold Hid; omega, hM0, by rw [unhide HA]; rfl, by unfold Hid; rw [List.drop_zero]⟩
    case round =>
      obtain ⟨rfl, j, hk, hj, rfl, hz⟩ := hrel
      have hsz : a + j < s.size := by have := unhide hML; have := unhide hj; omega
      have e5 : IntKind.i64.wrap (((a + j : Nat) : Int) + 1) = ((a + (j + 1) : Nat) : Int) := by rw [IntKind.wrap_i64]; omega
      have hgx := hide (unhide hix j hsz)
      have i1 : (0 : Int) ≤ ((a + j : Nat) : Int) := by omega
      have i2 : ((a + j : Nat) : Int) < (s.size : Int) := by omega
      by_cases hmore : j + 1 < M.length ∧ bt M j = 48
      · have i3 : ((a + (j + 1) : Nat) : Int) < (s.size : Int) := by have := unhide hML; omega
        have hg2 : ((s[a + j]'hsz).toNat : Int) = 48 := by rw [unhide hgx, hmore.2]; rfl
        have HM := hide hmore
        clear hmore
        go_wp2
        go_roundg (gk - 1)
        case measure => have := unhide hk; have := (unhide HM).1; omega
        case rel =>
          refine ⟨rfl, j + 1, ?_, (unhide HM).1, ?_, ?_⟩
          · have := unhide hk; have := (unhide HM).1; unfold Hid; omega
          · first | rfl | (rw [e5]) | go_num
          · rw [Hid, ← nz_step (unhide HM).1 (unhide HM).2]; exact unhide hz
      · have hst := hide (nz_stop (unhide hj) hmore)
        have he := unhide hex j
        obtain ⟨T, hT⟩ : ∃ T, Hid (M.drop j = T) := ⟨_, rfl⟩
        rw [unhide hT] at he
        have hzT : Hid (nz M = T) := by rw [Hid, ← unhide hz, unhide hst, unhide hT]
        rw [unhide hzT] at hnl
        have hTl : Hid (T.length + j = M.length) := by rw [Hid, ← unhide hT, List.length_drop]; have := unhide hj; omega
        first
          | (have hlim : ¬ 9223372036854775807 < 1 + T.length := by
              have h1 := unhide HA; have h2 := unhide hTl; have h3 := unhide hML; omega)
          | skip
        have hcond : (¬ ((a + (j + 1) : Nat) : Int) < (s.size : Int)) ∨ (((a + (j + 1) : Nat) : Int) < (s.size : Int) ∧ (((s[a + j]'hsz).toNat : Int) == 48) = false) := by
          have h3 := unhide hML
          by_cases hl : j + 1 < M.length
          · right
            refine ⟨by omega, ?_⟩
            rw [beq_eq_false_iff_ne, unhide hgx]
            intro e
            exact hmore ⟨hl, by omega⟩
          · left; omega
        clear hmore
        by_cases h48 : T = [48]
        · have e48 : (!T == [48]) = false := by rw [h48]; rfl
          have hR : Hid (R = T) := by
            have h := unhide hnl
            simp [h48] at h
            rw [Hid, h, h48]
          have H48 := hide h48
          clear h48
          rcases hcond with i3 | ⟨i3, hg3⟩
          all_goals
            go_wp2
            go_ret
            refine ⟨?_, rfl⟩
            rw [unhide hR]
            first | rfl | (rw [← he]; rfl)
        · have e48 : (!T == [48]) = true := by
            have : (T == [48]) = false := by rw [beq_eq_false_iff_ne]; exact h48
            rw [this]; rfl
          have hR := unhide hnl
          simp only [ne_eq, h48, not_false_eq_true, and_true, Bool.false_eq_true, if_true, if_false] at hR
          have HR := hide hR
          clear hR
          have H48 := hide h48
          clear h48
          rcases hcond with i3 | ⟨i3, hg3⟩
          all_goals
            go_wp2
            go_ret
            refine ⟨?_, rfl⟩
            rw [unhide HR]
            first | rfl | (rw [← he]; rfl) | (rw [show (45 :: T).toArray = ([45] ++ T).toArray from rfl, ← ByteArray.mk_append_mk]; rfl)
end Go.Proofs.YtakjojgclohocaaDoor
