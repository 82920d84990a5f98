/-
  The law's own copies of lists.
-/
import Derived.Test.YtpbdmbmafjkinaaDoorRgL
namespace Go.Proofs.YtpbdmbmafjkinaaDoor
open Go.RowKit
set_option linter.unusedVariables false
set_option linter.unusedSimpArgs false
theorem NxV.at1 {D : Nat → Prop} {w : World} {l : List Int} {v : Value} (h : NxV D w l v) {i : Nat} {o : Int} (ho : l[i]? = some o) : ∃ b off cap, v = .slice (some ⟨b, off, none⟩) l.length cap ∧ b < w.heap.size ∧ D b ∧ w.cell? ⟨b, off + i * 1, none⟩ = some (.int .i64 o) := by
  have hi := (List.getElem?_eq_some_iff.1 ho).1
  obtain ⟨b, off, cap, e, _, _, hb, hc⟩ := h.1.elem zI ho
  exact ⟨b, off, cap, e, hb, h.2 (by omega) b (by rw [e]; rfl), hc 0 _ rfl⟩
set_option maxRecDepth 100000 in
set_option maxHeartbeats 6400000 in
theorem copyOpnds_any {w : World} {D : Nat → Prop} {av : Value} {l : List Op} (ha : OpV D w l av) (hN : l.length ≤ 1073741824) :
    Calls Tryd.prog 69 #[av] w fun e w' => ∃ v, e = .returned v ∧ Gx w 2 enO l v w' := by
  obtain ⟨a, acap, rfl, ha1, ha2⟩ := ha.1.shape
  have HA := hide ha
  unfold maxLen at ha2
  clear ha
  obtain ⟨L, hL⟩ : ∃ L, Hid (l.length = L) := ⟨_, hide rfl⟩
  rw [unhide hL] at ha1 hN ⊢
  go_enter Tryd.func69, Tryd.ntmps69
  go_wp2_with fail
  go_loopg [3, 4] L (fun gg t2 t3 wr => ∃ (i : Nat) (cv : Value), Hid (i + gg = L) ∧ t2 = cv ∧ t3 = .int .i64 (i : Int) ∧ Hid (Gx w 2 enO (l.take i) cv wr))
  case atStart => exact ⟨0, _, by unfold Hid; omega, rfl, rfl, ⟨by simpa [flt] using Ro.nil w 2, Below.refl _ _, fun k e => by cases e⟩⟩
  case round =>
    obtain ⟨i, cv, hi, rfl, rfl, hG⟩ := hrel
    by_cases hlt : i < L
    · obtain ⟨o, ho⟩ : ∃ o, l[i]? = some o := ⟨_, List.getElem?_eq_getElem (by rw [unhide hL]; exact hlt)⟩
      obtain ⟨b, off, cap, e, hb, _, c0, c1⟩ := (unhide HA).at ho
      rw [unhide hL] at e
      cases e
      have hb' := Nat.lt_of_lt_of_le hb (unhide hG).2.1.size
      have k0 : wr.cell? ⟨b, off + i * 2, none⟩ = some (.int .i64 o.k) := ((unhide hG).2.1.cell (p := ⟨b, off + i * 2, none⟩) hb).trans c0
      have k1 : wr.cell? ⟨b, off + i * 2 + 1, none⟩ = some (.int .i64 o.n) := ((unhide hG).2.1.cell (p := ⟨b, off + i * 2 + 1, none⟩) hb).trans c1
      have i0 : (0 : Int) ≤ (i : Int) := by omega
      have i1 : (i : Int) < (L : Int) := by omega
      have HO := hide ho
      have HRo := hide (unhide hG).1
      have HLB : Hid ((l.take i).length ≤ 1099511627776) := by rw [List.length_take, unhide hL]; unfold Hid; omega
      clear ho c0 c1 hb
      go_wp2_with (first | (at_builtin; refine appO rfl _ _ rfl _ (l.take i) rfl ((unhide HRo).keep (fun g hg => Below.heap_alloc _ _ _ ((unhide HRo).lt g hg))) ⟨wr.heap.size, 0, none⟩ 1 o rfl (new_cells _ _ _) (unhide HLB) ?_))
      intro v' w' hr hg hat
      have HG2 := hide ((unhide hG).push hr (by simp) hg (by simpa using hat))
      rw [← take_push (unhide HO)] at HG2
      clear hr hg hat HRo HLB k0 k1 hb'
      go_wp2_with fail
      go_roundg (gk - 1)
      case measure => have := unhide hi; omega
      case rel => exact ⟨i + 1, v', by have := unhide hi; unfold Hid; omega, rfl, by go_num, HG2⟩
    · have hiL : i = L := by have := unhide hi; omega
      subst hiL
      rw [List.take_of_length_le (by rw [unhide hL]; exact Nat.le_refl _)] at hG
      have i1 : ¬ (i : Int) < (i : Int) := by omega
      go_wp2_with fail
      go_ret
      exact ⟨_, rfl, unhide hG⟩
set_option maxRecDepth 100000 in
set_option maxHeartbeats 6400000 in
theorem copyInts_any {w : World} {D : Nat → Prop} {av : Value} {l : List Int} (ha : NxV D w l av) (hN : l.length ≤ 1073741824) :
    Calls Tryd.prog 71 #[av] w fun e w' => ∃ v, e = .returned v ∧ Gx w 1 enI l v w' := by
  obtain ⟨a, acap, rfl, ha1, ha2⟩ := ha.1.shape
  have HA := hide ha
  unfold maxLen at ha2
  clear ha
  obtain ⟨L, hL⟩ : ∃ L, Hid (l.length = L) := ⟨_, hide rfl⟩
  rw [unhide hL] at ha1 hN ⊢
  go_enter Tryd.func71, Tryd.ntmps71
  go_wp2_with fail
  go_loopg [3, 4] L (fun gg t2 t3 wr => ∃ (i : Nat) (cv : Value), Hid (i + gg = L) ∧ t2 = cv ∧ t3 = .int .i64 (i : Int) ∧ Hid (Gx w 1 enI (l.take i) cv wr))
  case atStart => exact ⟨0, _, by unfold Hid; omega, rfl, rfl, ⟨by simpa [flt] using Ro.nil w 1, Below.refl _ _, fun k e => by cases e⟩⟩
  case round =>
    obtain ⟨i, cv, hi, rfl, rfl, hG⟩ := hrel
    by_cases hlt : i < L
    · obtain ⟨o, ho⟩ : ∃ o, l[i]? = some o := ⟨_, List.getElem?_eq_getElem (by rw [unhide hL]; exact hlt)⟩
      obtain ⟨b, off, cap, e, hb, _, c0⟩ := (unhide HA).at1 ho
      rw [unhide hL] at e
      cases e
      have hb' := Nat.lt_of_lt_of_le hb (unhide hG).2.1.size
      have k0 : wr.cell? ⟨b, off + i * 1, none⟩ = some (.int .i64 o) := ((unhide hG).2.1.cell (p := ⟨b, off + i * 1, none⟩) hb).trans c0
      simp only [Nat.mul_one] at k0
      have i0 : (0 : Int) ≤ (i : Int) := by omega
      have i1 : (i : Int) < (L : Int) := by omega
      have HO := hide ho
      have HRo := hide (unhide hG).1
      have HLB : Hid ((l.take i).length ≤ 1099511627776) := by rw [List.length_take, unhide hL]; unfold Hid; omega
      clear ho c0 hb
      go_wp2_with (first | (at_builtin; refine appI rfl _ _ rfl _ (l.take i) rfl ((unhide HRo).keep (fun g hg => Below.heap_alloc _ _ _ ((unhide HRo).lt g hg))) ⟨wr.heap.size, 0, none⟩ 1 o rfl (new_cells _ _ _) (unhide HLB) ?_))
      intro v' w' hr hg hat
      have HG2 := hide ((unhide hG).push hr (by simp) hg (by simpa using hat))
      rw [← take_push (unhide HO)] at HG2
      clear hr hg hat HRo HLB k0 hb'
      go_wp2_with fail
      go_roundg (gk - 1)
      case measure => have := unhide hi; omega
      case rel => exact ⟨i + 1, v', by have := unhide hi; unfold Hid; omega, rfl, by go_num, HG2⟩
    · have hiL : i = L := by have := unhide hi; omega
      subst hiL
      rw [List.take_of_length_le (by rw [unhide hL]; exact Nat.le_refl _)] at hG
      have i1 : ¬ (i : Int) < (i : Int) := by omega
      go_wp2_with fail
      go_ret
      exact ⟨_, rfl, unhide hG⟩
end Go.Proofs.YtpbdmbmafjkinaaDoor
