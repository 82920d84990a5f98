/-
  SameCode, SameHandlers, Pick, SameProgram.
-/
import Derived.Test.YtlogmdldjmkkjaaGreatDoorDDe
namespace Go.Proofs.YtlogmdldjmkkjaaGreatDoor
open Go.RowKit
set_option linter.unusedVariables false
set_option linter.unusedSimpArgs false
set_option maxRecDepth 100000 in
set_option maxHeartbeats 3200000 in
theorem sameI_any {w : World} {av bv : Value} {l : List (Int × Int)} (ha : Rx w 2 av l.length (flt enI l)) (hb : Rx w 2 bv l.length (flt enI l)) (hN : l.length ≤ 4398046510976) :
    Calls Tryz.prog 51 #[av, bv] w fun e w' => e = .returned (.bool true) ∧ Below w.heap.size w w' := by
  have HA := hide (fun i p (hp : l[i]? = some p) => ha.elem zI hp)
  have HB := hide (fun i p (hp : l[i]? = some p) => hb.elem zI hp)
  obtain ⟨_, a, cap, rfl, _, _, _⟩ := ha
  obtain ⟨_, b, bcap, rfl, _, _, _⟩ := hb
  obtain ⟨L, hL⟩ : ∃ L, Hid (l.length = L) := ⟨_, rfl⟩
  rw [unhide hL] at hN HA HB ⊢
  have d0 : (((L : Nat) : Int) != (L : Int)) = false := by simp
  go_enter Tryz.func51, Tryz.ntmps51
  go_wp2_with fail
  go_loopg [5] L (fun gg t5 wr => ∃ (i : Nat), Hid (i + gg = L) ∧ t5 = .int .i64 (i : Int) ∧ Hid (Below w.heap.size w wr))
  case atStart => exact ⟨0, by unfold Hid; omega, rfl, Below.refl _ _⟩
  case round =>
    obtain ⟨i, hi, rfl, hB⟩ := hrel
    by_cases hlt : i < L
    · have hil : i < l.length := by rw [unhide hL]; exact hlt
      obtain ⟨p, hp⟩ : ∃ p, l[i]? = some p := ⟨_, List.getElem?_eq_getElem hil⟩
      obtain ⟨ab, ao, _, e1, _, _, hb1, c⟩ := unhide HA i p hp
      obtain ⟨bb, bo, _, e2, _, _, hb2, d⟩ := unhide HB i p hp
      cases e1
      cases e2
      have k0 : wr.cell? ⟨ab, ao + i * 2, none⟩ = some (.int .i64 p.1) := ((unhide hB).cell (p := ⟨ab, ao + i * 2, none⟩) hb1).trans (c 0 _ rfl)
      have r0 : wr.cell? ⟨bb, bo + i * 2, none⟩ = some (.int .i64 p.1) := ((unhide hB).cell (p := ⟨bb, bo + i * 2, none⟩) hb2).trans (d 0 _ rfl)
      have k1 : wr.cell? ⟨ab, ao + i * 2 + 1, none⟩ = some (.int .i64 p.2) := ((unhide hB).cell (p := ⟨ab, ao + i * 2 + 1, none⟩) hb1).trans (c 1 _ rfl)
      have r1 : wr.cell? ⟨bb, bo + i * 2 + 1, none⟩ = some (.int .i64 p.2) := ((unhide hB).cell (p := ⟨bb, bo + i * 2 + 1, none⟩) hb2).trans (d 1 _ rfl)
      have hbr := Nat.lt_of_lt_of_le hb1 (unhide hB).size
      have hgr := Nat.lt_of_lt_of_le hb2 (unhide hB).size
      have i0 : (0 : Int) ≤ (i : Int) := by omega
      have i1 : (i : Int) < (L : Int) := by omega
      clear c d hp
      go_wp2_with fail
      go_quiet (fail)
      have hB3 := hide ((unhide hB).trans ((Fr.drewN (S := fun _ => False) nq).below (unhide hB).size (fun _ _ e => e)))
      go_wp2_with fail
      go_roundg (gk - 1)
      case measure => have := unhide hi; omega
      case rel => exact ⟨i + 1, by have := unhide hi; unfold Hid; omega, by go_num, hB3⟩
    · have hiL : i = L := by have := unhide hi; omega
      subst hiL
      go_wp2_with fail
      go_ret
      exact ⟨rfl, unhide hB⟩
set_option maxRecDepth 100000 in
set_option maxHeartbeats 3200000 in
theorem sameH_any {w : World} {av bv : Value} {l : List Hd} (ha : Rx w 4 av l.length (flt enH l)) (hb : Rx w 4 bv l.length (flt enH l)) (hN : l.length ≤ 4398046510976) :
    Calls Tryz.prog 52 #[av, bv] w fun e w' => e = .returned (.bool true) ∧ Below w.heap.size w w' := by
  have HA := hide (fun i p (hp : l[i]? = some p) => ha.elem zH hp)
  have HB := hide (fun i p (hp : l[i]? = some p) => hb.elem zH hp)
  obtain ⟨_, a, cap, rfl, _, _, _⟩ := ha
  obtain ⟨_, b, bcap, rfl, _, _, _⟩ := hb
  obtain ⟨L, hL⟩ : ∃ L, Hid (l.length = L) := ⟨_, rfl⟩
  rw [unhide hL] at hN HA HB ⊢
  have d0 : (((L : Nat) : Int) != (L : Int)) = false := by simp
  go_enter Tryz.func52, Tryz.ntmps52
  go_wp2_with fail
  go_loopg [5] L (fun gg t5 wr => ∃ (i : Nat), Hid (i + gg = L) ∧ t5 = .int .i64 (i : Int) ∧ Hid (Below w.heap.size w wr))
  case atStart => exact ⟨0, by unfold Hid; omega, rfl, Below.refl _ _⟩
  case round =>
    obtain ⟨i, hi, rfl, hB⟩ := hrel
    by_cases hlt : i < L
    · have hil : i < l.length := by rw [unhide hL]; exact hlt
      obtain ⟨p, hp⟩ : ∃ p, l[i]? = some p := ⟨_, List.getElem?_eq_getElem hil⟩
      obtain ⟨ab, ao, _, e1, _, _, hb1, c⟩ := unhide HA i p hp
      obtain ⟨bb, bo, _, e2, _, _, hb2, d⟩ := unhide HB i p hp
      cases e1
      cases e2
      have k0 : wr.cell? ⟨ab, ao + i * 4, none⟩ = some (.int .i64 p.frm) := ((unhide hB).cell (p := ⟨ab, ao + i * 4, none⟩) hb1).trans (c 0 _ rfl)
      have r0 : wr.cell? ⟨bb, bo + i * 4, none⟩ = some (.int .i64 p.frm) := ((unhide hB).cell (p := ⟨bb, bo + i * 4, none⟩) hb2).trans (d 0 _ rfl)
      have k1 : wr.cell? ⟨ab, ao + i * 4 + 1, none⟩ = some (.int .i64 p.to) := ((unhide hB).cell (p := ⟨ab, ao + i * 4 + 1, none⟩) hb1).trans (c 1 _ rfl)
      have r1 : wr.cell? ⟨bb, bo + i * 4 + 1, none⟩ = some (.int .i64 p.to) := ((unhide hB).cell (p := ⟨bb, bo + i * 4 + 1, none⟩) hb2).trans (d 1 _ rfl)
      have k2 : wr.cell? ⟨ab, ao + i * 4 + 2, none⟩ = some (.int .i64 p.target) := ((unhide hB).cell (p := ⟨ab, ao + i * 4 + 2, none⟩) hb1).trans (c 2 _ rfl)
      have r2 : wr.cell? ⟨bb, bo + i * 4 + 2, none⟩ = some (.int .i64 p.target) := ((unhide hB).cell (p := ⟨bb, bo + i * 4 + 2, none⟩) hb2).trans (d 2 _ rfl)
      have k3 : wr.cell? ⟨ab, ao + i * 4 + 3, none⟩ = some (.int .i64 p.height) := ((unhide hB).cell (p := ⟨ab, ao + i * 4 + 3, none⟩) hb1).trans (c 3 _ rfl)
      have r3 : wr.cell? ⟨bb, bo + i * 4 + 3, none⟩ = some (.int .i64 p.height) := ((unhide hB).cell (p := ⟨bb, bo + i * 4 + 3, none⟩) hb2).trans (d 3 _ rfl)
      have hbr := Nat.lt_of_lt_of_le hb1 (unhide hB).size
      have hgr := Nat.lt_of_lt_of_le hb2 (unhide hB).size
      have i0 : (0 : Int) ≤ (i : Int) := by omega
      have i1 : (i : Int) < (L : Int) := by omega
      clear c d hp
      go_wp2_with fail
      go_quiet (fail)
      have hB3 := hide ((unhide hB).trans ((Fr.drewN (S := fun _ => False) nq).below (unhide hB).size (fun _ _ e => e)))
      go_wp2_with fail
      go_roundg (gk - 1)
      case measure => have := unhide hi; omega
      case rel => exact ⟨i + 1, by have := unhide hi; unfold Hid; omega, by go_num, hB3⟩
    · have hiL : i = L := by have := unhide hi; omega
      subst hiL
      go_wp2_with fail
      go_ret
      exact ⟨rfl, unhide hB⟩
set_option maxRecDepth 100000 in
set_option maxHeartbeats 6400000 in
theorem sameP_any {w : World} {av bv : Value} {p : Pg} (ha : PgV w av p) (hb : PgV w bv p) (hN : p.consts.length ≤ 4398046510976) (hM : p.funcs.length ≤ 4398046510976) (hF : ∀ f ∈ p.funcs, f.code.length ≤ 4398046510976 ∧ f.hs.length ≤ 4398046510976) :
    Calls Tryz.prog 21 #[av, bv] w fun e w' => e = .returned (.bool true) ∧ Below w.heap.size w w' := by
  obtain ⟨cv, fv, rfl, hc, hf⟩ := ha
  obtain ⟨dv, gv, rfl, hd, hg⟩ := hb
  have HA := hide (fun i c (hp : p.consts[i]? = some c) => hc.elem zC hp)
  have HB := hide (fun i c (hp : p.consts[i]? = some c) => hd.elem zC hp)
  obtain ⟨fa, fc, rfl, _, _, hfa⟩ := hf.at
  obtain ⟨ga, gc, rfl, _, _, hga⟩ := hg.at
  have HFA := hide hfa
  have HGA := hide hga
  obtain ⟨_, ca, cc, rfl, _, _, _⟩ := hc
  obtain ⟨_, da, dc, rfl, _, _, _⟩ := hd
  obtain ⟨NC, hNC⟩ : ∃ n, Hid (p.consts.length = n) := ⟨_, rfl⟩
  obtain ⟨NF, hNF⟩ : ∃ n, Hid (p.funcs.length = n) := ⟨_, rfl⟩
  rw [unhide hNC] at HA HB hN ⊢
  rw [unhide hNF] at hM ⊢
  have HFF := hide hF
  clear hfa hga hf hg hF
  have d0 : (((NC : Nat) : Int) != (NC : Int)) = false := by simp
  have d1 : (((NF : Nat) : Int) != (NF : Int)) = false := by simp
  obtain ⟨X1, eX1⟩ : ∃ X1, Hid (X1 = (w.alloc (.cells #[.slice ca NC cc, .slice fa NF fc] 25)).alloc (.cells #[.slice da NC dc, .slice ga NF gc] 25)) := ⟨_, rfl⟩
  have HX : Hid (Bx X1 2 w.heap.size [.slice ca NC cc, .slice fa NF fc]) := by
    rw [unhide eX1]; exact (Bx.new rfl rfl).fr (S := fun _ => False) ((Fr.refl _ _).alloc _) (fun e => e)
  have HY : Hid (Bx X1 2 (w.heap.size + 1) [.slice da NC dc, .slice ga NF gc]) := by
    rw [unhide eX1]; exact Bx.new rfl (by simp)
  have HW : Hid (Below w.heap.size w X1) := by rw [unhide eX1]; exact ((Below.refl _ w).alloc (Nat.le_refl _) _).alloc (by simp) _
  have x0 := (unhide HX).cell (j := 0) rfl
  have x1 := (unhide HX).cell (j := 1) rfl
  have y0 := (unhide HY).cell (j := 0) rfl
  have y1 := (unhide HY).cell (j := 1) rfl
  have hs1 : X1.heap.size = w.heap.size + 2 := by rw [unhide eX1]; simp
  go_enter Tryz.func21, Tryz.ntmps21
  go_wp2_with fail
  rw [← unhide eX1]
  clear x0 x1 y0 y1
  go_loopg [5] NC (fun gg t5 wr => ∃ (i : Nat), Hid (i + gg = NC) ∧ t5 = .int .i64 (i : Int) ∧ Hid (Below X1.heap.size X1 wr))
  case atStart => exact ⟨0, by unfold Hid; omega, rfl, Below.refl _ _⟩
  case round =>
    obtain ⟨i, hi, rfl, hB⟩ := hrel
    have x0 := ((unhide hB).cell (p := ⟨w.heap.size, 0, none⟩) (by simp only []; omega)).trans ((unhide HX).cell (j := 0) rfl)
    have x1 := ((unhide hB).cell (p := ⟨w.heap.size, 1, none⟩) (by simp only []; omega)).trans ((unhide HX).cell (j := 1) rfl)
    have y0 := ((unhide hB).cell (p := ⟨w.heap.size + 1, 0, none⟩) (by simp only []; omega)).trans ((unhide HY).cell (j := 0) rfl)
    have y1 := ((unhide hB).cell (p := ⟨w.heap.size + 1, 1, none⟩) (by simp only []; omega)).trans ((unhide HY).cell (j := 1) rfl)
    by_cases hlt : i < NC
    · have hil : i < p.consts.length := by rw [unhide hNC]; exact hlt
      obtain ⟨c, hp⟩ : ∃ c, p.consts[i]? = some c := ⟨_, List.getElem?_eq_getElem hil⟩
      obtain ⟨ab, ao, _, e1, _, _, hb1, cc1⟩ := unhide HA i c hp
      obtain ⟨bb, bo, _, e2, _, _, hb2, dd1⟩ := unhide HB i c hp
      cases e1
      cases e2
      have hB' := (unhide HW).trans ((unhide hB).mono (unhide HW).size)
      have k0 : wr.cell? ⟨ab, ao + i * 3, none⟩ = some (.int .i64 c.kind) := (hB'.cell (p := ⟨ab, ao + i * 3, none⟩) hb1).trans (cc1 0 _ rfl)
      have k1 : wr.cell? ⟨ab, ao + i * 3 + 1, none⟩ = some (.int .i64 c.n) := (hB'.cell (p := ⟨ab, ao + i * 3 + 1, none⟩) hb1).trans (cc1 1 _ rfl)
      have k2 : wr.cell? ⟨ab, ao + i * 3 + 2, none⟩ = some (.string c.text) := (hB'.cell (p := ⟨ab, ao + i * 3 + 2, none⟩) hb1).trans (cc1 2 _ rfl)
      have r0 : wr.cell? ⟨bb, bo + i * 3, none⟩ = some (.int .i64 c.kind) := (hB'.cell (p := ⟨bb, bo + i * 3, none⟩) hb2).trans (dd1 0 _ rfl)
      have r1 : wr.cell? ⟨bb, bo + i * 3 + 1, none⟩ = some (.int .i64 c.n) := (hB'.cell (p := ⟨bb, bo + i * 3 + 1, none⟩) hb2).trans (dd1 1 _ rfl)
      have r2 : wr.cell? ⟨bb, bo + i * 3 + 2, none⟩ = some (.string c.text) := (hB'.cell (p := ⟨bb, bo + i * 3 + 2, none⟩) hb2).trans (dd1 2 _ rfl)
      have hbr := Nat.lt_of_lt_of_le hb1 hB'.size
      have hgr := Nat.lt_of_lt_of_le hb2 hB'.size
      have i0 : (0 : Int) ≤ (i : Int) := by omega
      have i1 : (i : Int) < (NC : Int) := by omega
      obtain ⟨ck, cn, ct⟩ := c
      simp only at k0 k1 k2 r0 r1 r2
      clear cc1 dd1 hp hB'
      go_wp2_with fail
      go_quiet (fail)
      have hB3 := hide ((unhide hB).trans ((Fr.drewN (S := fun _ => False) nq).below (unhide hB).size (fun _ _ e => e)))
      go_wp2_with fail
      go_roundg (gk - 1)
      case measure => have := unhide hi; omega
      case rel => exact ⟨i + 1, by have := unhide hi; unfold Hid; omega, by go_num, hB3⟩
    · have hiL : i = NC := by have := unhide hi; omega
      subst hiL
      have i3 : decide ((i : Int) < (i : Int)) = false := by simp
      go_wp2_with fail
      clear x0 x1 y0 y1
      go_loopg [6] NF (fun gg t6 wr => ∃ (i : Nat), Hid (i + gg = NF) ∧ t6 = .int .i64 (i : Int) ∧ Hid (Below X1.heap.size X1 wr))
      case atStart => exact ⟨0, by unfold Hid; omega, rfl, unhide hB⟩
      case round =>
        rename_i wq _
        obtain ⟨k, hk, rfl, hC⟩ := hrel
        have x1 := ((unhide hC).cell (p := ⟨w.heap.size, 1, none⟩) (by simp only []; omega)).trans ((unhide HX).cell (j := 1) rfl)
        have y1 := ((unhide hC).cell (p := ⟨w.heap.size + 1, 1, none⟩) (by simp only []; omega)).trans ((unhide HY).cell (j := 1) rfl)
        by_cases hlt : k < NF
        · have hil : k < p.funcs.length := by rw [unhide hNF]; exact hlt
          obtain ⟨f, hp⟩ : ∃ f, p.funcs[k]? = some f := ⟨_, List.getElem?_eq_getElem hil⟩
          obtain ⟨ab, ao, x, rfl, hb1, hv1, cc1⟩ := unhide HFA k f hp
          obtain ⟨bb, bo, y, rfl, hb2, hv2, dd1⟩ := unhide HGA k f hp
          have hlen := unhide HFF f (List.mem_of_getElem? hp)
          have hB' := (unhide HW).trans ((unhide hC).mono (unhide HW).size)
          obtain ⟨xn, xp, xl, xc, xh⟩ := x
          obtain ⟨yn, yp, yl, yc, yh⟩ := y
          obtain ⟨fn, fp, fl, fcd, fhs⟩ := f
          obtain ⟨e1, e2, e3, vC1, vH1⟩ := hv1
          obtain ⟨e4, e5, e6, vC2, vH2⟩ := hv2
          simp only at e1 e2 e3 e4 e5 e6 vC1 vH1 vC2 vH2 hlen
          subst e1 e2 e3 e4 e5 e6
          have k0 : wr.cell? ⟨ab, ao + k * 5, none⟩ = some (.string yn) := (hB'.cell (p := ⟨ab, ao + k * 5, none⟩) hb1).trans (cc1 0 _ rfl)
          have k1 : wr.cell? ⟨ab, ao + k * 5 + 1, none⟩ = some (.int .i64 yp) := (hB'.cell (p := ⟨ab, ao + k * 5 + 1, none⟩) hb1).trans (cc1 1 _ rfl)
          have k2 : wr.cell? ⟨ab, ao + k * 5 + 2, none⟩ = some (.int .i64 yl) := (hB'.cell (p := ⟨ab, ao + k * 5 + 2, none⟩) hb1).trans (cc1 2 _ rfl)
          have k3 : wr.cell? ⟨ab, ao + k * 5 + 3, none⟩ = some xc := (hB'.cell (p := ⟨ab, ao + k * 5 + 3, none⟩) hb1).trans (cc1 3 _ rfl)
          have k4 : wr.cell? ⟨ab, ao + k * 5 + 4, none⟩ = some xh := (hB'.cell (p := ⟨ab, ao + k * 5 + 4, none⟩) hb1).trans (cc1 4 _ rfl)
          have r0 : wr.cell? ⟨bb, bo + k * 5, none⟩ = some (.string yn) := (hB'.cell (p := ⟨bb, bo + k * 5, none⟩) hb2).trans (dd1 0 _ rfl)
          have r1 : wr.cell? ⟨bb, bo + k * 5 + 1, none⟩ = some (.int .i64 yp) := (hB'.cell (p := ⟨bb, bo + k * 5 + 1, none⟩) hb2).trans (dd1 1 _ rfl)
          have r2 : wr.cell? ⟨bb, bo + k * 5 + 2, none⟩ = some (.int .i64 yl) := (hB'.cell (p := ⟨bb, bo + k * 5 + 2, none⟩) hb2).trans (dd1 2 _ rfl)
          have r3 : wr.cell? ⟨bb, bo + k * 5 + 3, none⟩ = some yc := (hB'.cell (p := ⟨bb, bo + k * 5 + 3, none⟩) hb2).trans (dd1 3 _ rfl)
          have r4 : wr.cell? ⟨bb, bo + k * 5 + 4, none⟩ = some yh := (hB'.cell (p := ⟨bb, bo + k * 5 + 4, none⟩) hb2).trans (dd1 4 _ rfl)
          have hbr := Nat.lt_of_lt_of_le hb1 hB'.size
          have hgr := Nat.lt_of_lt_of_le hb2 hB'.size
          have i0 : (0 : Int) ≤ (k : Int) := by omega
          have i1 : (k : Int) < (NF : Int) := by omega
          have HSC := hide (fun wx (hx : Below w.heap.size w wx) => sameI_any (w := wx) (vC1.below hx (Nat.le_refl _)) (vC2.below hx (Nat.le_refl _)) hlen.1)
          have HSH := hide (fun wx (hx : Below w.heap.size w wx) => sameH_any (w := wx) (vH1.below hx (Nat.le_refl _)) (vH2.below hx (Nat.le_refl _)) hlen.2)
          obtain ⟨_, xca, xcc, rfl, _, _, _⟩ := vC1
          obtain ⟨_, xha, xhc, rfl, _, _, _⟩ := vH1
          obtain ⟨_, yca, ycc, rfl, _, _, _⟩ := vC2
          obtain ⟨_, yha, yhc, rfl, _, _, _⟩ := vH2
          obtain ⟨LC, hLC⟩ : ∃ n, Hid (fcd.length = n) := ⟨_, rfl⟩
          obtain ⟨LH, hLH⟩ : ∃ n, Hid (fhs.length = n) := ⟨_, rfl⟩
          rw [unhide hLC] at k3 r3 HSC
          rw [unhide hLH] at k4 r4 HSH
          clear cc1 dd1 hp hlen hb1 hb2
          have z1 : (yp != yp) = false := by simp
          have z2 : (yl != yl) = false := by simp
          obtain ⟨Y1, eY1⟩ : ∃ Y1, Hid (Y1 = (wr.alloc (.cells #[.string yn, .int .i64 yp, .int .i64 yl, .slice xca LC xcc, .slice xha LH xhc] 73)).alloc (.cells #[.string yn, .int .i64 yp, .int .i64 yl, .slice yca LC ycc, .slice yha LH yhc] 73)) := ⟨_, rfl⟩
          have HU : Hid (Bx Y1 5 wr.heap.size [.string yn, .int .i64 yp, .int .i64 yl, .slice xca LC xcc, .slice xha LH xhc]) := by
            rw [unhide eY1]; exact (Bx.new rfl rfl).fr (S := fun _ => False) ((Fr.refl _ _).alloc _) (fun e => e)
          have HV : Hid (Bx Y1 5 (wr.heap.size + 1) [.string yn, .int .i64 yp, .int .i64 yl, .slice yca LC ycc, .slice yha LH yhc]) := by
            rw [unhide eY1]; exact Bx.new rfl (by simp)
          have HWY : Hid (Below X1.heap.size X1 Y1) := by rw [unhide eY1]; exact ((unhide hC).alloc (unhide hC).size _).alloc (by simp; exact Nat.le_succ_of_le (unhide hC).size) _
          have hw0 : w.heap.size < wr.heap.size := by have := (unhide hC).size; omega
          have hw1 : w.heap.size + 1 < wr.heap.size := by have := (unhide hC).size; omega
          go_wp2_with fail
          rw [← unhide eY1]
          clear eY1 x1 y1 k0 k1 k2 k3 k4 r0 r1 r2 r3 r4
          have hY := (unhide HW).trans ((unhide HWY).mono (unhide HW).size)
          refine (unhide HSC Y1 hY).mono ?_
          rintro e Y2 ⟨rfl, hb2⟩
          have HU2 : Hid (Bx Y2 5 wr.heap.size [.string yn, .int .i64 yp, .int .i64 yl, .slice xca LC xcc, .slice xha LH xhc]) := (unhide HU).fr (S := fun _ => False) (Fr.of_below hb2) (fun e => e)
          have HV2 : Hid (Bx Y2 5 (wr.heap.size + 1) [.string yn, .int .i64 yp, .int .i64 yl, .slice yca LC ycc, .slice yha LH yhc]) := (unhide HV).fr (S := fun _ => False) (Fr.of_below hb2) (fun e => e)
          have HWY2 : Hid (Below X1.heap.size X1 Y2) := (unhide HWY).trans (hb2.mono (unhide HWY).size)
          have u4 := (unhide HU2).cell (j := 4) rfl
          have v4 := (unhide HV2).cell (j := 4) rfl
          clear HU HV HWY hb2 hY
          go_wp2_with fail
          have hY := (unhide HW).trans ((unhide HWY2).mono (unhide HW).size)
          refine (unhide HSH Y2 hY).mono ?_
          rintro e Y3 ⟨rfl, hb3⟩
          have HWY3 : Hid (Below X1.heap.size X1 Y3) := (unhide HWY2).trans (hb3.mono (unhide HWY2).size)
          clear u4 v4 hb3 hY
          go_wp2_with fail
          go_roundg (gk - 1)
          case measure => have := unhide hk; omega
          case rel => exact ⟨k + 1, by have := unhide hk; unfold Hid; omega, by go_num, HWY3⟩
        · have hkF : k = NF := by have := unhide hk; omega
          subst hkF
          have i4 : decide ((k : Int) < (k : Int)) = false := by simp
          go_wp2_with fail
          go_ret
          exact ⟨rfl, (unhide HW).trans ((unhide hC).mono (unhide HW).size)⟩
end Go.Proofs.YtlogmdldjmkkjaaGreatDoor
