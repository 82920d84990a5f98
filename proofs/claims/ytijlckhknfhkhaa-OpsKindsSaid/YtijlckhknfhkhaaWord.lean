/-
  A word of a text of words.
-/
import Derived.Test.YtijlckhknfhkhaaRows
import Derived.WalkKit
import Derived.Below
import Derived.Deep.LoopGhost
import Derived.Laws.DeepStrings4
namespace Go.Proofs.Ytijlckhknfhkhaa
open Go.RowKit

def Hid (p : Prop) : Prop := p
theorem hide {p : Prop} (h : p) : Hid p := h
theorem unhide {p : Prop} (h : Hid p) : p := h

/-- What is left to be found: from place i on, c words being behind, the next one beginning at f. -/
def wd (s : ByteArray) (n : Int) : Nat → Nat → Nat → Nat → ByteArray
  | 0, _, _, _ => ByteArray.empty
  | g + 1, i, f, c => if (s.data.toList.getD i 0).toNat = 32 then (if n = c then s.extract f i else wd s n g (i + 1) (i + 1) (c + 1)) else wd s n g (i + 1) f c

/-- How many words end from place i on. -/
def wn (s : ByteArray) : Nat → Nat → Nat
  | 0, _ => 0
  | g + 1, i => if (s.data.toList.getD i 0).toNat = 32 then wn s g (i + 1) + 1 else wn s g (i + 1)

theorem wd_no (s : ByteArray) (n : Int) : ∀ (g i f c : Nat), (n < c ∨ (c : Int) + wn s g i ≤ n) → wd s n g i f c = ByteArray.empty := by
  intro g
  induction g with
  | zero => intros; rfl
  | succ g ih =>
    intro i f c h
    unfold wd
    unfold wn at h
    by_cases hb : (s.data.toList.getD i 0).toNat = 32
    · rw [if_pos hb]
      rw [if_pos hb] at h
      rw [if_neg (by omega)]
      exact ih _ _ _ (by omega)
    · rw [if_neg hb]
      rw [if_neg hb] at h
      exact ih _ _ _ h

set_option maxRecDepth 100000 in
set_option maxHeartbeats 1000000 in
theorem word_any (w : World) (s : ByteArray) (n : Int) (hs : s.size < 1000) (hn : -9223372036854775808 ≤ n ∧ n ≤ 9223372036854775807) :
    Calls Try.prog 12 #[.string s, .int .i64 n] w fun e w' => e = .returned (.string (wd s n s.size 0 0 0)) ∧ w' = w := by
  obtain ⟨an, han⟩ : ∃ a, Hid (a = wd s n s.size 0 0 0) := ⟨_, rfl⟩
  rw [← unhide han]
  have HN := hide hn
  clear hn
  go_enter Try.func12, Try.ntmps12
  go_wp2
  go_loopg [1, 5, 6] s.size (fun g t1 t5 t6 wr => ∃ (i f c : Nat) (m : Int), Hid (i + g = s.size) ∧ t1 = .int .i64 m ∧ t5 = .int .i64 (f : Int) ∧ t6 = .int .i64 (i : Int) ∧ wr = w ∧ Hid (an = wd s n g i f c) ∧ Hid (f ≤ i ∧ c ≤ i) ∧ Hid (m = n - c ∨ m = n - c + 18446744073709551616) ∧ Hid (-9223372036854775808 ≤ m ∧ m ≤ 9223372036854775807))
  case atStart => exact ⟨0, 0, 0, n, by unfold Hid; omega, rfl, rfl, rfl, rfl, han, by unfold Hid; omega, by unfold Hid; omega, HN⟩
  case round =>
    obtain ⟨i, f, c, m, hi, rfl, rfl, rfl, rfl, ha, hfc, hm, hM⟩ := hrel
    by_cases hlt : i < s.size
    · obtain ⟨g, rfl⟩ : ∃ g, gk = g + 1 := ⟨gk - 1, by have := unhide hi; omega⟩
      have ha2 : an = _ := ha
      unfold wd at ha2
      have hbe : ∀ h, (s[i]'h).toNat = (s.data.toList.getD i 0).toNat := fun h => by
        rw [List.getD_eq_getElem?_getD, List.getElem?_eq_getElem (by simpa using hlt)]
        rfl
      by_cases h32 : (s.data.toList.getD i 0).toNat = 32
      · rw [if_pos h32] at ha2
        have hb : ∀ h, (s[i]'h).toNat = 32 := fun h => (hbe h).trans h32
        clear hbe h32
        obtain ⟨hf1, hf2⟩ := unhide hfc
        have his : i ≤ s.size := by omega
        by_cases he : m = 0
        · have hnc : n = c := by have h1 := unhide hm; have h2 := unhide HN; omega
          rw [if_pos hnc] at ha2
          have HA := hide ha2
          clear ha2 hnc hm hM
          subst he
          go_wp2
          go_ret
          rw [unhide HA]
          exact ⟨rfl, rfl⟩
        · have hnc : ¬ n = c := by have h1 := unhide hm; have h2 := unhide hM; omega
          rw [if_neg hnc] at ha2
          have HA := hide ha2
          have he' : (m == 0) = false := by simpa using he
          have HE := hide he
          clear ha2 he hnc
          go_wp2
          go_roundg g
          case measure => have := unhide hi; omega
          case rel =>
            refine ⟨i + 1, i + 1, c + 1, _, ?_, rfl, ?_, ?_, rfl, HA, ?_, ?_, ?_⟩
            · have := unhide hi; unfold Hid; omega
            · go_num
            · go_num
            · unfold Hid; omega
            · have h1 := unhide hm; have h2 := unhide hM; have h3 := unhide HN; unfold Hid wrap64; omega
            · unfold Hid wrap64; omega
      · rw [if_neg h32] at ha2
        have HA := hide ha2
        have hne : (((s.data.toList.getD i 0).toNat : Int) != 32) = true := by simpa using (by omega : ¬ ((s.data.toList.getD i 0).toNat : Int) = 32)
        rw [← hbe hlt] at hne
        clear ha2 h32 hbe
        go_wp2
        go_roundg g
        case measure => have := unhide hi; omega
        case rel =>
          refine ⟨i + 1, f, c, m, ?_, rfl, rfl, ?_, rfl, HA, ?_, hm, hM⟩
          · have := unhide hi; unfold Hid; omega
          · go_num
          · have := unhide hfc; unfold Hid; omega
    · have hi0 : i = s.size ∧ gk = 0 := by have := unhide hi; omega
      obtain ⟨rfl, rfl⟩ := hi0
      have HA : Hid (an = ByteArray.empty) := ha
      go_wp2
      go_ret
      rw [unhide HA]
      exact ⟨rfl, rfl⟩
end Go.Proofs.Ytijlckhknfhkhaa
