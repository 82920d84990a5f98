/-
  The law's own copies of shapes.
-/
import Derived.Test.YtpbdpejhjdoleaaCo
import Derived.Test.YtpbdpejhjdoleaaTd
import Derived.Test.YtpbdpejhjdoleaaSh
import Derived.Test.YtpbdpejhjdoleaaRg14
namespace Go.Proofs.Ytpbdpejhjdoleaa
open Go.RowKit
set_option linter.unusedVariables false
set_option linter.unusedSimpArgs false
set_option maxRecDepth 100000 in
set_option maxHeartbeats 12800000 in
theorem copyShapes_any {w : World} {D : Nat → Prop} {lv : Value} {l : List Sh} (hl : ShsV D w l lv) (hN : l.length ≤ 1073741824) (hM : ∀ s ∈ l, s.sl.length ≤ 1073741824) :
    Calls Try.prog 47 #[lv] w fun e w' => ∃ (v : Value) (rs : List ShR), e = .returned v ∧ Gx w 3 enSh rs v w' ∧ rs.length = l.length ∧ ∀ (j : Nat) (s : Sh) (r : ShR), l[j]? = some s → rs[j]? = some r → r.fn = s.fn ∧ r.pc = s.pc := by
  obtain ⟨a, acap, rfl, ha1, ha2⟩ := NV.shape hl
  have HA := hide hl
  have HM := hide hM
  unfold maxLen at ha2
  clear hl hM
  obtain ⟨L, hL⟩ : ∃ L, Hid (l.length = L) := ⟨_, hide rfl⟩
  rw [unhide hL] at ha1 hN ⊢
  go_enter Try.func47, Try.ntmps47
  go_wp2_with fail
  go_loopg [3, 4] L (fun gg t2 t3 wr => ∃ (i : Nat) (cv : Value) (rs : List ShR), Hid (i + gg = L) ∧ t2 = cv ∧ t3 = .int .i64 (i : Int) ∧ Hid (rs.length = i) ∧ Hid (Gx w 3 enSh rs cv wr) ∧ Hid (∀ (j : Nat) (s : Sh) (r : ShR), l[j]? = some s → rs[j]? = some r → r.fn = s.fn ∧ r.pc = s.pc))
  case atStart => exact ⟨0, _, [], by unfold Hid; omega, rfl, rfl, hide rfl, ⟨by simpa [flt] using Ro.nil w 3, Below.refl _ _, fun k e => by cases e⟩, hide (fun j s r _ h => by simp at h)⟩
  case round =>
    obtain ⟨i, cv, rs, hi, rfl, rfl, hrs, hG, hFP⟩ := hrel
    by_cases hlt : i < L
    case neg =>
      have hiL : i = L := by have := unhide hi; omega
      subst hiL
      have i1 : ¬ (i : Int) < (i : Int) := by omega
      go_wp2_with fail
      go_ret
      exact ⟨_, rfl, rs, unhide hG, unhide hrs, unhide hFP⟩
    obtain ⟨s, hs⟩ : ∃ o, l[i]? = some o := ⟨_, List.getElem?_eq_getElem (by rw [unhide hL]; exact hlt)⟩
    obtain ⟨b, off, cap, sa, sc, e, hb, _, hp3, hs1, hs2, hcl⟩ := (unhide HA).at hs
    rw [unhide hL] at e
    cases e
    obtain ⟨k0, k1, k2⟩ := hcl wr ((unhide hG).2.1.block b hb)
    have hb' := Nat.lt_of_lt_of_le hb (unhide hG).2.1.size
    have i0 : (0 : Int) ≤ (i : Int) := by omega
    have i1 : (i : Int) < (L : Int) := by omega
    have HO := hide hs
    have hsl := unhide HM s (List.mem_of_getElem? hs)
    have HLB : Hid (rs.length ≤ 1099511627776) := by rw [unhide hrs]; unfold Hid; omega
    obtain ⟨N, hN'⟩ : ∃ N, Hid (s.sl.length = N) := ⟨_, hide rfl⟩
    have H0 := hide ((BX.nil wr).add #[.int .i64 s.fn, .int .i64 s.pc, .slice sa s.sl.length sc] 65)
    simp only [List.nil_append] at H0
    have HC := hide (copyOpnds_any (w := wr.alloc (.cells #[.int .i64 s.fn, .int .i64 s.pc, .slice sa s.sl.length sc] 65)) (OpV.mv.bel hp3 (bl_past (unhide hG).2.1 (unhide H0).b)) hsl)
    unfold maxLen at hs2
    rw [unhide hN'] at k2 H0 HC hs1
    obtain ⟨k3, k4, k5⟩ := hcl _ (((unhide H0).b.block b hb').trans ((unhide hG).2.1.block b hb))
    rw [unhide hN'] at k5
    obtain ⟨Y, eY⟩ : ∃ Y, wr.alloc (.cells #[.int .i64 s.fn, .int .i64 s.pc, .slice sa N sc] 65) = Y := ⟨_, rfl⟩
    rw [eY] at H0 HC k3 k4 k5
    have yl : b < Y.heap.size := Nat.lt_of_lt_of_le hb' (unhide H0).b.size
    have HNH := hide hsl
    clear hs hp3 hcl hsl
    go_wp2_with fail
    refine (unhide HC).mono ?_
    rintro e w2 ⟨u, rfl, hu⟩
    obtain ⟨ua, uc, eu, hu1, hu2⟩ := hu.1.shape
    subst eu
    rw [unhide hN'] at hu1 ⊢
    unfold maxLen at hu2
    have H2 := hide ((unhide H0).go hu.2.1)
    have z0 := (unhide H2).ce 0 rfl 0
    have z1 := (unhide H2).ce 0 rfl 1
    have z2 := (unhide H2).ce 0 rfl 2
    have zl := (unhide H2).lt (i := 0) rfl
    have zf := (blk_cells ((unhide H2).h 0 _ rfl)).2.1 2
    simp at z0 z1 z2 zl zf
    clear hu HC k0 k1 k2 k3 k4 k5 yl eY
    go_wp2_with (first | (at_builtin; refine appSh rfl _ _ rfl _ rs rfl (((unhide hG).on (by repeat (first | refine bl_past ?_ (box1n _ _) | refine Below.setCell ?_ (by first | (simp; done) | (simp; omega)) _ | with_reducible exact (unhide H2).b))).1) ⟨w2.heap.size, 0, none⟩ 1 ⟨s.fn, s.pc, .slice ua N uc⟩ rfl (new_cellsB _ _ _ (by simp)) rfl (unhide HLB) ?_))
    intro v' w' hr hg hat
    have HG2 := hide ((((unhide hG).on (by repeat (first | refine bl_past ?_ (box1n _ _) | refine Below.setCell ?_ (by first | (simp; done) | (simp; omega)) _ | with_reducible exact (unhide H2).b))).push hr (by simp) hg (by simpa using hat)))
    have HFP2 : Hid (∀ (j : Nat) (q : Sh) (r : ShR), l[j]? = some q → (rs ++ [⟨s.fn, s.pc, .slice ua N uc⟩])[j]? = some r → r.fn = q.fn ∧ r.pc = q.pc) := fun j q r hq hr => by
      by_cases c : j < rs.length
      · rw [List.getElem?_append_left c] at hr
        exact unhide hFP j q r hq hr
      · rw [List.getElem?_append_right (by omega)] at hr
        have hj : j - rs.length = 0 := by have := (List.getElem?_eq_some_iff.1 hr).1; simp at this; omega
        have hj2 : j = i := by have := unhide hrs; omega
        rw [hj] at hr
        rw [hj2, unhide HO] at hq
        cases hr
        cases hq
        exact ⟨rfl, rfl⟩
    clear hr hg hat HLB z0 z1 z2 zl zf
    go_wp2_with fail
    go_roundg (gk - 1)
    case measure => have := unhide hi; omega
    case rel => exact ⟨i + 1, v', _, by have := unhide hi; unfold Hid; omega, rfl, by go_num, by have := unhide hrs; unfold Hid; simp; omega, HG2, HFP2⟩
end Go.Proofs.Ytpbdpejhjdoleaa
