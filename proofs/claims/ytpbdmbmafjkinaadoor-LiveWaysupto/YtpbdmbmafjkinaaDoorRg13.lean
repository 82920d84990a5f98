/-
  Operands with marks behind them.
-/
import Derived.Test.YtpbdmbmafjkinaaDoorSr
namespace Go.Proofs.YtpbdmbmafjkinaaDoor
open Go.RowKit
set_option linter.unusedVariables false
set_option linter.unusedSimpArgs false
/-- So many marks. -/
def mks {R : Type} (mk : Nat → R) (n : Nat) : List R := (List.range n).map mk
theorem mks_succ {R : Type} (mk : Nat → R) (n : Nat) : mks mk (n + 1) = mks mk n ++ [mk n] := by simp [mks, List.range_succ]
theorem mks_length {R : Type} (mk : Nat → R) (n : Nat) : (mks mk n).length = n := by simp [mks]
theorem mks_at {R : Type} (mk : Nat → R) {n i : Nat} (h : i < n) : (mks mk n)[i]? = some (mk i) := by simp [mks, h]
def mkO (i : Nat) : Op := ⟨-7, (i : Int)⟩
def mkSh (i : Nat) : ShR := ⟨-7, (i : Int), .slice none 0 0⟩
def mkN (i : Nat) : Int := -7 - (i : Int)
def mkIn (i : Nat) : InR := ⟨-7, 0, 0, .slice none 0 0, 0, (i : Int), 0, .slice none 0 0⟩
def mkBk (i : Nat) : BkR := ⟨-7 - (i : Int), .slice none 0 0, .slice none 0 0⟩
theorem OpV.at {D : Nat → Prop} {w : World} {l : List Op} {v : Value} (h : OpV D w l v) {i : Nat} {o : Op} (ho : l[i]? = some o) : ∃ b off cap, v = .slice (some ⟨b, off, none⟩) l.length cap ∧ b < w.heap.size ∧ D b ∧ w.cell? ⟨b, off + i * 2, none⟩ = some (.int .i64 o.k) ∧ w.cell? ⟨b, off + i * 2 + 1, none⟩ = some (.int .i64 o.n) := by
  have hi := (List.getElem?_eq_some_iff.1 ho).1
  obtain ⟨b, off, cap, e, _, _, hb, hc⟩ := h.1.elem zO ho
  exact ⟨b, off, cap, e, hb, h.2 (by omega) b (by rw [e]; rfl), hc 0 _ rfl, hc 1 _ rfl⟩
set_option maxRecDepth 100000 in
set_option maxHeartbeats 6400000 in
theorem markedOpnds_any {w : World} {D : Nat → Prop} {av : Value} {l : List Op} (ha : OpV D w l av) (hN : l.length ≤ 1073741824) :
    Calls Tryd.prog 40 #[av] w fun e w' => ∃ v, e = .returned v ∧ Gx w 2 enO (l ++ mks mkO 16) v w' := by
  obtain ⟨a, acap, rfl, ha1, ha2⟩ := ha.1.shape
  have HA := hide ha
  unfold maxLen at ha2
  clear ha
  obtain ⟨L, hL⟩ : ∃ L, Hid (l.length = L) := ⟨_, hide rfl⟩
  rw [unhide hL] at ha1 hN ⊢
  go_enter Tryd.func40, Tryd.ntmps40
  go_wp2_with fail
  go_loopg [3, 4] L (fun gg t2 t3 wr => ∃ (i : Nat) (cv : Value), Hid (i + gg = L) ∧ t2 = cv ∧ t3 = .int .i64 (i : Int) ∧ Hid (Gx w 2 enO (l.take i) cv wr))
  case atStart => exact ⟨0, _, by unfold Hid; omega, rfl, rfl, ⟨by simpa [flt] using Ro.nil w 2, Below.refl _ _, fun k e => by cases e⟩⟩
  case round =>
    obtain ⟨i, cv, hi, rfl, rfl, hG⟩ := hrel
    by_cases hlt : i < L
    · obtain ⟨o, ho⟩ : ∃ o, l[i]? = some o := ⟨_, List.getElem?_eq_getElem (by rw [unhide hL]; exact hlt)⟩
      obtain ⟨b, off, cap, e, hb, _, c0, c1⟩ := (unhide HA).at ho
      cases e
      have hb' := Nat.lt_of_lt_of_le hb (unhide hG).2.1.size
      have k0 : wr.cell? ⟨b, off + i * 2, none⟩ = some (.int .i64 o.k) := ((unhide hG).2.1.cell (p := ⟨b, off + i * 2, none⟩) hb).trans c0
      have k1 : wr.cell? ⟨b, off + i * 2 + 1, none⟩ = some (.int .i64 o.n) := ((unhide hG).2.1.cell (p := ⟨b, off + i * 2 + 1, none⟩) hb).trans c1
      have i0 : (0 : Int) ≤ (i : Int) := by omega
      have i1 : (i : Int) < (L : Int) := by omega
      have HO := hide ho
      have HRo := hide (unhide hG).1
      have HLB : Hid ((l.take i).length ≤ 1099511627776) := by rw [List.length_take, unhide hL]; unfold Hid; omega
      clear ho c0 c1 hb
      go_wp2_with (first | (at_builtin; refine appO rfl _ _ rfl _ (l.take i) rfl ((unhide HRo).keep (fun g hg => Below.heap_alloc _ _ _ ((unhide HRo).lt g hg))) ⟨wr.heap.size, 0, none⟩ 1 o rfl (new_cells _ _ _) (unhide HLB) ?_))
      intro v' w' hr hg hat
      have HG2 := hide ((unhide hG).push hr (by simp) hg (by simpa using hat))
      rw [← take_push (unhide HO)] at HG2
      clear hr hg hat HRo HLB k0 k1 hb'
      go_wp2_with fail
      go_roundg (gk - 1)
      case measure => have := unhide hi; omega
      case rel => exact ⟨i + 1, v', by have := unhide hi; unfold Hid; omega, rfl, by go_num, HG2⟩
    · have hiL : i = L := by have := unhide hi; omega
      subst hiL
      rw [List.take_of_length_le (by rw [unhide hL]; exact Nat.le_refl _)] at hG
      go_wp2_with fail
      go_loopg [3, 5] 16 (fun g t5 t6 wq => ∃ (j : Nat) (cv : Value), Hid (j + g = 16) ∧ t5 = cv ∧ t6 = .int .i64 (j : Int) ∧ Hid (Gx w 2 enO (l ++ mks mkO j) cv wq))
      case atStart => exact ⟨0, _, by unfold Hid; omega, rfl, rfl, by simpa [mks] using hG⟩
      case round =>
        clear hG
        obtain ⟨j, cv, hj, rfl, rfl, hG⟩ := hrel
        by_cases hjt : j < 16
        · have j0 : (0 : Int) ≤ (j : Int) := by omega
          have j1 : (j : Int) < 16 := by omega
          have HRo := hide (unhide hG).1
          have HLB : Hid ((l ++ mks mkO j).length ≤ 1099511627776) := by rw [List.length_append, mks_length, unhide hL]; unfold Hid; omega
          go_wp2_with (first | (at_builtin; refine appO rfl _ _ rfl _ (l ++ mks mkO j) rfl ((unhide HRo).keep (fun g hg => Below.heap_alloc _ _ _ ((unhide HRo).lt g hg))) ⟨wr.heap.size, 0, none⟩ 1 (mkO j) rfl (new_cells _ _ _) (unhide HLB) ?_))
          intro v' w' hr hg hat
          have HG2 := hide ((unhide hG).push hr (by simp) hg (by simpa using hat))
          rw [List.append_assoc, ← mks_succ] at HG2
          clear hr hg hat HRo HLB
          go_wp2_with fail
          go_roundg (gk - 1)
          case measure => have := unhide hj; omega
          case rel => exact ⟨j + 1, v', by have := unhide hj; unfold Hid; omega, rfl, by go_num, HG2⟩
        · have hj16 : j = 16 := by have := unhide hj; omega
          subst hj16
          go_wp2_with fail
          go_ret
          exact ⟨_, rfl, unhide hG⟩
end Go.Proofs.YtpbdmbmafjkinaaDoor
