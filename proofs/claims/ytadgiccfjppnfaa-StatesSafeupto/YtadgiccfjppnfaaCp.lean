/-
  Rows of numbers, of texts, of values: copied, held against each other.
-/
import Derived.Test.YtadgiccfjppnfaaSta
namespace Go.Proofs.Ytadgiccfjppnfaa
open Go.RowKit
set_option linter.unusedVariables false
set_option linter.unusedSimpArgs false
theorem infL : (Try.prog.info? 2).map (fun i => (i.zero, i.size, i.bytes)) = some (some (.int .i64 0), 1, 8) := by kernel_rfl
theorem appL {w : World} {ops : Array Oper} {rest : List Oper} {o : Oper} {a : Act} {Q : Exit → Act → World → Prop}
    (hg : o.guard = none) (s x : Operand) (hop : o.op = Op.call { callee := Callee.builtin Builtin.append, args := #[s, x], argTypes := #[41, 41] })
    (v : Value) (l : List (Int)) (hs : a.eval s = v) (hr : Ro w 1 v l.length (flt enL l)) (ad : Addr) (c : Nat) (p : Int) (hx : a.eval x = .slice (some ad) 1 c) (hc : ∀ j u, (enL p)[j]? = some u → w.cell? (ad.add j) = some u)
    (hN : l.length ≤ 3000000000000)
    (hK : ∀ v' w', Ro w' 1 v' (l.length + 1) (flt enL l ++ enL p) → w.grownBy w' v.ownBlock → (v'.ownBlock = v.ownBlock ∨ v'.ownBlock = some w.heap.size) → wpList Try.prog ops Q rest (a.put o.dst v') w') :
    wpList Try.prog ops Q (o :: rest) a w := by
  obtain ⟨i0, hi0, hz0, hz1, hz2⟩ := info_parts infL
  exact wpList_app hg s x 41 hop 2 i0 _ 1 8 Try.underlying41 hi0 hz0 hz1 hz2 rfl (by decide) v l.length (flt enL l) hs hr ad 1 c (enL p) hx rfl hc (by simp [enL, Value.oneCell']) (by omega) (by unfold maxLen; omega) (by omega) hK
set_option maxRecDepth 100000 in
set_option maxHeartbeats 1600000 in
theorem copyL_any {w : World} {lv : Value} {l : List (Int)} (h : Rx w 1 lv l.length (flt enL l)) (hN : l.length ≤ 3000000000000) :
    Calls Try.prog 38 #[lv] w fun e w' => ∃ v', e = .returned v' ∧ Gx w 1 enL l v' w' := by
  have HC := hide (fun i p (hp : l[i]? = some p) => h.elem zL hp)
  obtain ⟨_, a, cap, rfl, hlc, hcm, _⟩ := h
  obtain ⟨L, hL⟩ : ∃ L, Hid (l.length = L) := ⟨_, rfl⟩
  rw [unhide hL] at hN hlc HC ⊢
  go_enter Try.func38, Try.ntmps38
  go_wp2_with fail
  go_loopg [3, 4] L (fun g t3 t4 wr => ∃ (i : Nat) (v : Value), Hid (i + g = L) ∧ t3 = v ∧ t4 = .int .i64 (i : Int) ∧ Hid (Gx w 1 enL (l.take i) v wr))
  case atStart => exact ⟨0, _, by unfold Hid; omega, rfl, rfl, ⟨by simpa [flt] using Ro.nil _ _, Below.refl _ _, by simp [Value.ownBlock]⟩⟩
  case round =>
    obtain ⟨i, v, hi, rfl, rfl, hG⟩ := hrel
    by_cases hlt : i < L
    · have hil : i < l.length := by rw [unhide hL]; exact hlt
      obtain ⟨p, hp⟩ : ∃ p, l[i]? = some p := ⟨_, List.getElem?_eq_getElem hil⟩
      obtain ⟨b, off, cap', e, _, _, hb, hcs⟩ := unhide HC i p hp
      cases e
      have hs := (unhide hG).2.1
      have k0 : wr.cell? ⟨b, off + i, none⟩ = some (.int .i64 p) := (hs.cell (p := ⟨b, off + i, none⟩) hb).trans (by have := hcs 0 _ rfl; rwa [Nat.mul_one, Nat.add_zero] at this)
      have hbr := Nat.lt_of_lt_of_le hb hs.size
      have i0 : (0 : Int) ≤ (i : Int) := by omega
      have i1 : (i : Int) < (L : Int) := by omega
      have htl : (l.take i).length = i := by simp; omega
      have HRo := hide (unhide hG).1
      have HP := hide hp
      clear hs hcs hp
      go_wp2_with (first | (at_builtin; refine appL rfl _ _ rfl _ (l.take i) rfl ((unhide HRo).keep (fun g hg => Below.heap_alloc _ _ _ ((unhide HRo).lt g hg))) ⟨wr.heap.size, 0, none⟩ 1 p rfl (new_cells _ _ _) (by rw [htl]; omega) ?_))
      intro v' w' hr hg hat
      have hG2 := (unhide hG).push hr (by rw [htl]) hg (by simpa using hat)
      rw [← take_push (unhide HP)] at hG2
      have HG2 := hide hG2
      clear hr hg hat hG2
      go_wp2_with fail
      go_roundg (gk - 1)
      case measure => have := unhide hi; omega
      case rel => exact ⟨i + 1, v', by have := unhide hi; unfold Hid; omega, rfl, by go_num, HG2⟩
    · have hiL : i = L := by have := unhide hi; omega
      subst hiL
      have hG0 := unhide hG
      rw [List.take_of_length_le (by rw [unhide hL]; exact Nat.le_refl _)] at hG0
      have HG0 := hide hG0
      clear hG hG0
      go_wp2_with fail
      go_ret
      exact ⟨_, rfl, unhide HG0⟩
theorem infT : (Try.prog.info? 9).map (fun i => (i.zero, i.size, i.bytes)) = some (some (.string ByteArray.empty), 1, 16) := by kernel_rfl
theorem appT {w : World} {ops : Array Oper} {rest : List Oper} {o : Oper} {a : Act} {Q : Exit → Act → World → Prop}
    (hg : o.guard = none) (s x : Operand) (hop : o.op = Op.call { callee := Callee.builtin Builtin.append, args := #[s, x], argTypes := #[22, 22] })
    (v : Value) (l : List (ByteArray)) (hs : a.eval s = v) (hr : Ro w 1 v l.length (flt enT l)) (ad : Addr) (c : Nat) (p : ByteArray) (hx : a.eval x = .slice (some ad) 1 c) (hc : ∀ j u, (enT p)[j]? = some u → w.cell? (ad.add j) = some u)
    (hN : l.length ≤ 3000000000000)
    (hK : ∀ v' w', Ro w' 1 v' (l.length + 1) (flt enT l ++ enT p) → w.grownBy w' v.ownBlock → (v'.ownBlock = v.ownBlock ∨ v'.ownBlock = some w.heap.size) → wpList Try.prog ops Q rest (a.put o.dst v') w') :
    wpList Try.prog ops Q (o :: rest) a w := by
  obtain ⟨i0, hi0, hz0, hz1, hz2⟩ := info_parts infT
  exact wpList_app hg s x 22 hop 9 i0 _ 1 16 Try.underlying22 hi0 hz0 hz1 hz2 rfl (by decide) v l.length (flt enT l) hs hr ad 1 c (enT p) hx rfl hc (by simp [enT, Value.oneCell']) (by omega) (by unfold maxLen; omega) (by omega) hK
set_option maxRecDepth 100000 in
set_option maxHeartbeats 1600000 in
theorem copyT_any {w : World} {lv : Value} {l : List (ByteArray)} (h : Rx w 1 lv l.length (flt enT l)) (hN : l.length ≤ 3000000000000) :
    Calls Try.prog 39 #[lv] w fun e w' => ∃ v', e = .returned v' ∧ Gx w 1 enT l v' w' := by
  have HC := hide (fun i p (hp : l[i]? = some p) => h.elem zT hp)
  obtain ⟨_, a, cap, rfl, hlc, hcm, _⟩ := h
  obtain ⟨L, hL⟩ : ∃ L, Hid (l.length = L) := ⟨_, rfl⟩
  rw [unhide hL] at hN hlc HC ⊢
  go_enter Try.func39, Try.ntmps39
  go_wp2_with fail
  go_loopg [3, 4] L (fun g t3 t4 wr => ∃ (i : Nat) (v : Value), Hid (i + g = L) ∧ t3 = v ∧ t4 = .int .i64 (i : Int) ∧ Hid (Gx w 1 enT (l.take i) v wr))
  case atStart => exact ⟨0, _, by unfold Hid; omega, rfl, rfl, ⟨by simpa [flt] using Ro.nil _ _, Below.refl _ _, by simp [Value.ownBlock]⟩⟩
  case round =>
    obtain ⟨i, v, hi, rfl, rfl, hG⟩ := hrel
    by_cases hlt : i < L
    · have hil : i < l.length := by rw [unhide hL]; exact hlt
      obtain ⟨p, hp⟩ : ∃ p, l[i]? = some p := ⟨_, List.getElem?_eq_getElem hil⟩
      obtain ⟨b, off, cap', e, _, _, hb, hcs⟩ := unhide HC i p hp
      cases e
      have hs := (unhide hG).2.1
      have k0 : wr.cell? ⟨b, off + i, none⟩ = some (.string p) := (hs.cell (p := ⟨b, off + i, none⟩) hb).trans (by have := hcs 0 _ rfl; rwa [Nat.mul_one, Nat.add_zero] at this)
      have hbr := Nat.lt_of_lt_of_le hb hs.size
      have i0 : (0 : Int) ≤ (i : Int) := by omega
      have i1 : (i : Int) < (L : Int) := by omega
      have htl : (l.take i).length = i := by simp; omega
      have HRo := hide (unhide hG).1
      have HP := hide hp
      clear hs hcs hp
      go_wp2_with (first | (at_builtin; refine appT rfl _ _ rfl _ (l.take i) rfl ((unhide HRo).keep (fun g hg => Below.heap_alloc _ _ _ ((unhide HRo).lt g hg))) ⟨wr.heap.size, 0, none⟩ 1 p rfl (new_cells _ _ _) (by rw [htl]; omega) ?_))
      intro v' w' hr hg hat
      have hG2 := (unhide hG).push hr (by rw [htl]) hg (by simpa using hat)
      rw [← take_push (unhide HP)] at hG2
      have HG2 := hide hG2
      clear hr hg hat hG2
      go_wp2_with fail
      go_roundg (gk - 1)
      case measure => have := unhide hi; omega
      case rel => exact ⟨i + 1, v', by have := unhide hi; unfold Hid; omega, rfl, by go_num, HG2⟩
    · have hiL : i = L := by have := unhide hi; omega
      subst hiL
      have hG0 := unhide hG
      rw [List.take_of_length_le (by rw [unhide hL]; exact Nat.le_refl _)] at hG0
      have HG0 := hide hG0
      clear hG hG0
      go_wp2_with fail
      go_ret
      exact ⟨_, rfl, unhide HG0⟩
end Go.Proofs.Ytadgiccfjppnfaa
