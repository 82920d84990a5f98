/-
  The document's copies.
-/
import Derived.Test.YtkpngfahnpidkaaMState
namespace Go.Proofs.Ytkpngfahnpidkaa
open Go.RowKit
set_option linter.unusedVariables false

theorem RtV.of_ro {w : World} {v : Value} {l : List (Int × Int)} (h : Ro w 2 v l.length (flat l)) : RtV w v l := by
  obtain ⟨a, cap, e, h1, h2⟩ := h.shape
  refine ⟨a, cap, e, h1, h2, fun i p hp => ?_⟩
  obtain ⟨g, off, cap', e', _, _, hl, c0, c1⟩ := h.pair hp
  rw [e] at e'
  cases e'
  exact ⟨g, off, rfl, hl, c0, c1⟩
set_option maxRecDepth 100000 in
set_option maxHeartbeats 1600000 in
theorem copyV_any {w : World} {lv : Value} {l : List (Int × Int)} (h : RtV w lv l) (hN : l.length ≤ 8796093021952) :
    Calls Try.prog 71 #[lv] w fun e w' => ∃ v', e = .returned v' ∧ Gw w l v' w' := by
  obtain ⟨a, cap, rfl, hlc, hcm, hcell⟩ := h
  have HC := hide hcell
  obtain ⟨L, hL⟩ : ∃ L, Hid (l.length = L) := ⟨_, rfl⟩
  rw [unhide hL] at hN hlc ⊢
  clear hcell
  go_enter Try.func71, Try.ntmps71
  go_wp2_with fail
  go_loopg [3, 4] L (fun g t3 t4 wr => ∃ (i : Nat) (v : Value), Hid (i + g = L) ∧ t3 = v ∧ t4 = .int .i64 (i : Int) ∧ Hid (Gw w (l.take i) v wr))
  case atStart => exact ⟨0, _, by unfold Hid; omega, rfl, rfl, ⟨by simpa [flat] using Ro.nil _ _, Below.refl _ _, by simp [Value.ownBlock]⟩⟩
  case round =>
    obtain ⟨i, v, hi, rfl, rfl, hG⟩ := hrel
    by_cases hlt : i < L
    · have hil : i < l.length := by rw [unhide hL]; exact hlt
      obtain ⟨p, hp⟩ : ∃ p, l[i]? = some p := ⟨_, List.getElem?_eq_getElem hil⟩
      obtain ⟨b, off, rfl, hb, c0, c1⟩ := unhide HC i p hp
      have hs := (unhide hG).2.1
      have k0 := (hs.cell (p := ⟨b, off + i * 2, none⟩) hb).trans c0
      have k1 := (hs.cell (p := ⟨b, off + i * 2 + 1, none⟩) hb).trans c1
      have hbr := Nat.lt_of_lt_of_le hb hs.size
      have i0 : (0 : Int) ≤ (i : Int) := by omega
      have i1 : (i : Int) < (L : Int) := by omega
      have htl : (l.take i).length = i := by simp; omega
      have HRo := hide (unhide hG).1
      have HP := hide hp
      clear hs c0 c1 hp
      go_wp2_with (first | (at_builtin; refine wpList_appW rfl _ _ rfl _ (l.take i) rfl ((unhide HRo).keep (fun g hg => Below.heap_alloc _ _ _ ((unhide HRo).lt g hg))) ⟨wr.heap.size, 0, none⟩ 1 p.1 p.2 rfl (two_new' _ _ _ _) (by rw [htl]; omega) ?_))
      intro v' w' hr hg hat
      have hG2 := (unhide hG).push (p := (p.1, p.2)) (by rw [List.length_append, htl]; exact hr) hg (by simpa using hat)
      rw [← take_push l i _ (unhide HP)] at hG2
      have HG2 := hide hG2
      clear hr hg hat hG2
      go_wp2_with fail
      go_roundg (gk - 1)
      case measure => have := unhide hi; omega
      case rel => exact ⟨i + 1, v', by have := unhide hi; unfold Hid; omega, rfl, by go_num, HG2⟩
    · have hiL : i = L := by have := unhide hi; omega
      subst hiL
      have hG0 := unhide hG
      rw [List.take_of_length_le (by rw [unhide hL]; exact Nat.le_refl _)] at hG0
      have HG0 := hide hG0
      clear hG hG0
      go_wp2_with fail
      go_ret
      exact ⟨_, rfl, unhide HG0⟩
set_option maxRecDepth 100000 in
set_option maxHeartbeats 1600000 in
theorem copyL_nil (w : World) (a : Option Addr) (c : Nat) :
    Calls Try.prog 87 #[.slice a 0 c] w fun e w' => e = .returned (.slice none 0 0) ∧ w' = w := by
  go_enter Try.func87, Try.ntmps87
  go_wp2_with fail
  go_loopg [3, 4] 0 (fun g t3 t4 wr => t3 = .slice none 0 0 ∧ t4 = .int .i64 0 ∧ wr = w)
  case atStart => exact ⟨rfl, rfl, rfl⟩
  case round =>
    obtain ⟨rfl, rfl, rfl⟩ := hrel
    go_wp2_with fail
    go_ret
    exact ⟨rfl, rfl⟩
end Go.Proofs.Ytkpngfahnpidkaa
