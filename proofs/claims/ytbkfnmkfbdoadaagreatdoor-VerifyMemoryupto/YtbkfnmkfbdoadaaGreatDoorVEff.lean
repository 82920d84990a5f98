/-
  Of an instruction: what it takes and puts, and whether it jumps or ends.
-/
import Derived.Test.YtbkfnmkfbdoadaaGreatDoorVDel
import Derived.Test.YtbkfnmkfbdoadaaGreatDoorOps2
import Derived.BigQuiet
import Derived.Deep.Draws
namespace Go.Proofs.YtbkfnmkfbdoadaaGreatDoor
open Go.RowKit
set_option linter.unusedVariables false
set_option linter.unusedSimpArgs false
/-- What DeleteFunc leaves. -/
structure DlR (X0 : World) (Z pb qb : Nat) (pc : Int) (hs : List Hd) (p : List Spot × List Spot) (lv0 iv iv' lv : Value) (X : World) : Prop where
  ro : Ro X 4 iv' (idl pc hs).length (flt enH (idl pc hs))
  io : iv'.ownBlock = iv.ownBlock
  ml : ML X Z (wkF pc hs p).1 (wkF pc hs p).2 lv
  fr : Fr (fun k => mtS Z lv0 k ∨ iv.ownBlock = some k) X0 X
  nw : nwL X0 lv0 lv
theorem DlS.first {X0 X : World} {Z pb qb : Nat} {pc : Int} {hs : List Hd} {p : List Spot × List Spot} {lv0 lv : Value} {g off cap i : Nat} {h : Hd} (hx : hs[i]? = some h) (hh : hol h pc = true) (hno : ∀ (j : Nat) (y : Hd), j < i → hs[j]? = some y → hol y pc = false)
    (ro : Ro X 4 (.slice (some ⟨g, off, none⟩) hs.length cap) hs.length (flt enH hs)) (ml : ML X Z (wkM pc p.1 h) (wkL pc p.1 p.2 h) lv) (fr : Fr (fun k => mtS Z lv0 k ∨ k = g) X0 X) (nw : nwL X0 lv0 lv) (bp : Bx X pb (.int .i64 pc)) (bq : Bx X qb (fM Z)) :
    DlS X0 Z pb qb pc hs p lv0 g off cap i (i + 1) hs lv X := by
  have hi := (List.getElem?_eq_some_iff.1 hx).1
  have hsk : ∀ x ∈ hs.take i, hol x pc = false := fun x hxm => by
    obtain ⟨j, hj, e⟩ := List.getElem_of_mem hxm
    have hj' : j < i := by simp at hj; omega
    refine hno j x hj' ?_
    rw [← e, List.getElem_take]
    exact List.getElem?_eq_getElem (by omega)
  have e : wkF pc (hs.take (i + 1)) p = (wkM pc p.1 h, wkL pc p.1 p.2 h) := by rw [wkF_push pc hx, wkF_skip hsk]
  refine ⟨by omega, hi, rfl, ?_, fun _ _ => rfl, ro, by rw [e]; exact ml, fr, nw, bp, bq⟩
  rw [idl_push pc hx, if_pos hh, idl_all hsk]
/-- One more was asked. -/
theorem DlS.ask {X0 wr X2 : World} {Z pb qb : Nat} {pc : Int} {hs : List Hd} {p : List Spot × List Spot} {lv0 lv2 lv3 : Value} {g off cap i j : Nat} {ys : List Hd} {o : Obj} (h : DlS X0 Z pb qb pc hs p lv0 g off cap i j ys lv2 wr)
    (hg : g < X0.heap.size) (hpl : pb < X0.heap.size) (hql : qb < X0.heap.size) (ni : ¬ mtS Z lv0 g) (np : ¬ mtS Z lv0 pb) (nq : ¬ mtS Z lv0 qb) (hF : Fr (mtS Z lv2) (wr.alloc o) X2) (hN : nwL (wr.alloc o) lv2 lv3) :
    Hid (Ro X2 4 (.slice (some ⟨g, off, none⟩) hs.length cap) hs.length (flt enH ys)) ∧ Hid (Fr (fun k => mtS Z lv0 k ∨ k = g) X0 X2) ∧ Hid (nwL X0 lv0 lv3) ∧ Hid (Bx X2 pb (.int .i64 pc)) ∧ Hid (Bx X2 qb (fM Z)) := by
  have f1 : Fr (mtS Z lv2) wr X2 := ⟨hF.os, hF.tape, hF.output, Nat.le_trans (by simp) hF.size, fun k hk hn => (hF.block k (by simp; omega) hn).trans (Below.heap_alloc _ _ _ hk)⟩
  have nm := fun k (hk : k < X0.heap.size) => h.nw.mtS (Z := Z) k hk
  refine ⟨h.ro.fr f1 (fun k hk e => ?_), h.fr.step f1 (fun k hk e => .inl (nm k hk e)), h.nw.trans hN (Nat.le_trans h.fr.size (by simp)), h.bp.keep f1 (fun e => np (nm pb hpl e)), h.bq.keep f1 (fun e => nq (nm qb hql e))⟩
  simp [Value.ownBlock] at hk
  subst hk
  exact ni (nm _ hg e)
theorem DlS.hit {X0 wr X2 : World} {Z pb qb : Nat} {pc : Int} {hs : List Hd} {p : List Spot × List Spot} {lv0 lv2 lv3 : Value} {g off cap i j : Nat} {ys : List Hd} {h : Hd} (D : DlS X0 Z pb qb pc hs p lv0 g off cap i j ys lv2 wr) (hx : hs[j]? = some h) (hh : hol h pc = true)
    (hM : ML X2 Z (wkM pc (wkF pc (hs.take j) p).1 h) (wkL pc (wkF pc (hs.take j) p).1 (wkF pc (hs.take j) p).2 h) lv3) (ro : Ro X2 4 (.slice (some ⟨g, off, none⟩) hs.length cap) hs.length (flt enH ys)) (fr : Fr (fun k => mtS Z lv0 k ∨ k = g) X0 X2) (nw : nwL X0 lv0 lv3) (bp : Bx X2 pb (.int .i64 pc)) (bq : Bx X2 qb (fM Z)) :
    DlS X0 Z pb qb pc hs p lv0 g off cap i (j + 1) ys lv3 X2 := by
  have hj := (List.getElem?_eq_some_iff.1 hx).1
  have ij := D.ij
  exact ⟨by omega, hj, D.yl, by rw [idl_push pc hx, if_pos hh]; exact D.yt, fun k hk => D.yd k (by omega), ro, by rw [wkF_push pc hx]; exact hM, fr, nw, bp, bq⟩
theorem DlS.miss {X0 wr X2 : World} {Z pb qb : Nat} {pc : Int} {hs : List Hd} {p : List Spot × List Spot} {lv0 lv2 lv3 : Value} {g off cap i j : Nat} {ys : List Hd} {h : Hd} (D : DlS X0 Z pb qb pc hs p lv0 g off cap i j ys lv2 wr) (hx : hs[j]? = some h) (hh : hol h pc = false)
    (hM : ML X2 Z (wkM pc (wkF pc (hs.take j) p).1 h) (wkL pc (wkF pc (hs.take j) p).1 (wkF pc (hs.take j) p).2 h) lv3) (ro : Ro X2 4 (.slice (some ⟨g, off, none⟩) hs.length cap) hs.length (flt enH ys)) (fr : Fr (fun k => mtS Z lv0 k ∨ k = g) X0 X2) (nw : nwL X0 lv0 lv3) (bp : Bx X2 pb (.int .i64 pc)) (bq : Bx X2 qb (fM Z))
    (hg : g < X0.heap.size) (ni : ¬ mtS Z lv0 g) (nz : g ≠ Z + 1) (np : g ≠ pb) (nq : g ≠ qb) :
    DlS X0 Z pb qb pc hs p lv0 g off cap (i + 1) (j + 1) (ys.set i h) lv3 (X2.setCells g (off + i * 4) (enH h)) := by
  have hj := (List.getElem?_eq_some_iff.1 hx).1
  have ij := D.ij
  have yl := D.yl
  have f2 : Fr (fun k => k = g) X2 (X2.setCells g (off + i * 4) (enH h)) := by
    obtain ⟨r1, r2, r3⟩ := setCells_rest g (enH h) (off + i * 4) X2
    exact ⟨r1, r2, r3, by rw [setCells_size]; exact Nat.le_refl _, fun k _ hk => setCells_other g k hk _ _ _⟩
  have hnm : ¬ mtS Z lv3 g := fun e => ni (nw.mtS g hg e)
  refine ⟨by omega, hj, by rw [List.length_set]; exact yl, ?_, fun k hk => ?_, ro.putH (by rw [yl]) (by omega) h, ?_, fr.step f2 (fun k _ e => .inr e), nw, bp.keep f2 (fun e => np e.symm), bq.keep f2 (fun e => nq e.symm)⟩
  · rw [idl_push pc hx, hh, if_neg (by simp), ← D.yt, List.take_add_one, List.take_set_of_le (by omega), List.getElem?_set_self (by omega)]
    rfl
  · rw [List.getElem?_set_ne (by omega)]
    exact D.yd k (by omega)
  · rw [wkF_push pc hx]
    refine hM.keep f2 (fun e => hnm (.inl e.symm)) (fun e => nz e.symm) (fun e => hnm (.inr (.inl e.symm))) (fun k hk e => ?_)
    subst e
    exact hnm (.inr (.inr hk))
/-- All were asked: what is behind the kept is cleared. -/
theorem DlS.done {X0 wr : World} {Z pb qb : Nat} {pc : Int} {hs : List Hd} {p : List Spot × List Spot} {lv0 lv2 : Value} {g off cap i : Nat} {ys : List Hd} (D : DlS X0 Z pb qb pc hs p lv0 g off cap i hs.length ys lv2 wr)
    (hg : g < X0.heap.size) (ni : ¬ mtS Z lv0 g) (nz : g ≠ Z + 1) {n : Nat} :
    DlR X0 Z pb qb pc hs p lv0 (.slice (some ⟨g, off, none⟩) n cap) (.slice (some ⟨g, off, none⟩) i cap) lv2 (wr.setCells g (off + i * 4) (zrH (hs.length - i))) := by
  have ij := D.ij
  have yl := D.yl
  have yt := D.yt
  rw [List.take_length] at yt
  have hil : (idl pc hs).length = i := by rw [← yt, List.length_take]; omega
  obtain ⟨_, _, e, hc, _⟩ := D.ro.shape
  cases e
  have f2 : Fr (fun k => k = g) wr (wr.setCells g (off + i * 4) (zrH (hs.length - i))) := by
    obtain ⟨r1, r2, r3⟩ := setCells_rest g (zrH (hs.length - i)) (off + i * 4) wr
    exact ⟨r1, r2, r3, by rw [setCells_size]; exact Nat.le_refl _, fun k _ hk => setCells_other g k hk _ _ _⟩
  have hnm : ¬ mtS Z lv2 g := fun e => ni (D.nw.mtS g hg e)
  have hml := D.ml
  rw [List.take_length] at hml
  refine ⟨?_, rfl, hml.keep f2 (fun e => hnm (.inl e.symm)) (fun e => nz e.symm) (fun e => hnm (.inr (.inl e.symm))) (fun k hk e => ?_), D.fr.step f2 (fun k _ e => .inr e) |>.mono (fun k _ e => e.imp id (fun q => by rw [q]; rfl)), D.nw⟩
  · rw [hil]
    refine (D.ro.sets rfl (o := off + i * 4) (m := i) (vs := zrH (hs.length - i)) (ys := flt enH (idl pc hs)) (by omega) (by rw [zrH_length]; omega) (by omega) (by rw [flt_length zH, hil]) (fun j hj => ?_) (fun j hj q => by omega)).1
    rw [if_neg (by omega), ← yt, ← flt_take zH, List.getElem?_take, if_pos hj]
  · subst e
    exact hnm (.inr (.inr hk))
set_option maxRecDepth 100000 in
set_option maxHeartbeats 6400000 in
theorem delFunc_any {X : World} {Z pb qb : Nat} {met left : List Spot} {lv iv : Value} {hs : List Hd} (pc : Int) (hM : ML X Z met left lv) (hp : Bx X pb (.int .i64 pc)) (hq : Bx X qb (fM Z)) (hi : Ro X 4 iv hs.length (flt enH hs)) (hk : ∀ h ∈ hs, OkH h)
    (np : ¬ (mtS Z lv pb ∨ iv.ownBlock = some pb)) (nq : ¬ (mtS Z lv qb ∨ iv.ownBlock = some qb)) (ni : ∀ k, iv.ownBlock = some k → ¬ mtS Z lv k) (nz : ∀ k, iv.ownBlock = some k → k ≠ Z + 1) (hl : left.length + hs.length < 1000000000) (hm : met.length + hs.length < 1000000000) :
    Calls Tryz.prog 77 #[iv, fW pb qb] X fun e X' => ∃ iv', e = .returned iv' ∧ ∃ lv', DlR X Z pb qb pc hs (met, left) lv iv iv' lv' X' := by
  have HIX := hide (ixFunc_any pc hM hp hq hi hk (fun e => np (.inl e)) (fun e => nq (.inl e)) ni (by omega) (by omega))
  have HMX := hide hM
  have HIR := hide hi
  have HPB := hide hp
  have HQB := hide hq
  have HNP := hide np
  have HNQ := hide nq
  have HNI := hide ni
  have HNZ := hide nz
  have HK := hide hk
  obtain ⟨ia, ic, ev, icl, icm⟩ := hi.shape
  obtain ⟨L, hL⟩ : ∃ L, Hid (hs.length = L) := ⟨_, rfl⟩
  have hLm : L ≤ maxLen := by rw [← unhide hL]; omega
  unfold maxLen at hLm icm
  obtain ⟨R, hR⟩ : ∃ R, Hid (ixh pc hs = R) := ⟨_, rfl⟩
  rw [unhide hL] at ev icl hl hm
  rw [unhide hR] at HIX
  subst ev
  clear hM hp hq hi hk ni np nq nz
  go_enter Tryz.func77, Tryz.ntmps77
  go_wp2_with fail
  refine (unhide HIX).mono ?_
  rintro e X1 ⟨rfl, lv1, hF1, hN1, hcase⟩
  clear HIX
  rcases hcase with ⟨hall, hM1⟩ | ⟨i, h, hx, hRi, hh, hno, hM1⟩
  · have hR1 : R = -1 := by
      rw [← unhide hR]; exact ixh_miss (fun j y hj hy => hall y (List.mem_of_getElem? hy))
    subst hR1
    have HE : Hid (DlR X Z pb qb pc hs (met, left) lv (.slice ia L ic) (.slice ia L ic) lv1 X1) :=
      ⟨by rw [idl_all hall]; exact (unhide HIR).fr hF1 (fun k hk => unhide HNI k hk), rfl, by rw [wkF_skip hall]; exact hM1, hF1.mono (fun k _ e => .inl e), hN1⟩
    clear hall hM1 hF1 hN1
    go_wp2_with fail
    go_ret
    exact ⟨_, rfl, lv1, unhide HE⟩
  · have hiL : i < L := by rw [← unhide hL]; exact (List.getElem?_eq_some_iff.1 hx).1
    have hRv : R = (i : Int) := hRi
    subst hRv
    obtain ⟨g, off, c', e, _, _, hgl, _⟩ := (unhide HIR).full (by rw [unhide hL]; omega)
    rw [unhide hL] at e
    cases e
    have HGL := hide hgl
    have HPL := hide (unhide HPB).lt
    have HQL := hide (unhide HQB).lt
    have hE : DlS X Z pb qb pc hs (met, left) lv g off ic i (i + 1) hs lv1 X1 := by
      refine DlS.first hx hh hno ?_ hM1 (hF1.mono (fun k _ e => .inl e)) hN1 ((unhide HPB).keep hF1 (fun e => unhide HNP (.inl e))) ((unhide HQB).keep hF1 (fun e => unhide HNQ (.inl e)))
      rw [unhide hL]
      have := (unhide HIR).fr hF1 (fun k hk => unhide HNI k hk)
      rw [unhide hL] at this
      exact this
    have HE := hide hE
    clear hE hM1 hF1 hN1 hx hh hno hRi
    have hne : ¬ (i : Int) = -1 := by omega
    have hwi : IntKind.i64.wrap ((i : Int) + 1) = (i : Int) + 1 := by go_arith
    go_wp2_with fail
    clear hne hwi
    go_loopg [5, 6] L (fun gg t5 t6 wr => ∃ (i j : Nat), Hid (L ≤ j + gg) ∧ t5 = .int .i64 (i : Int) ∧ t6 = .int .i64 (j : Int) ∧ Hid (∃ ys lv2, DlS X Z pb qb pc hs (met, left) lv g off ic i j ys lv2 wr))
    case atStart => exact ⟨i, i + 1, by unfold Hid; omega, rfl, by go_num, hs, lv1, HE⟩
    case round =>
      obtain ⟨i, j, hj, rfl, rfl, hD⟩ := hrel
      clear HE
      obtain ⟨ys, lv2, hD⟩ := unhide hD
      have HD := hide hD
      have hijL := hD.ij
      have i0 : (0 : Int) ≤ (j : Int) := by omega
      have i2 : (0 : Int) ≤ (i : Int) := by omega
      by_cases hlt : j < L
      · have i1 : (j : Int) < (L : Int) := by omega
        have i3 : (i : Int) < (L : Int) := by omega
        obtain ⟨h, hx⟩ : ∃ h, hs[j]? = some h := ⟨_, List.getElem?_eq_getElem (by rw [unhide hL]; exact hlt)⟩
        have hy : ys[j]? = some h := by rw [hD.yd j (Nat.le_refl _)]; exact hx
        have hro := hD.ro
        rw [← hD.yl] at hro
        obtain ⟨b', off', c', e, _, _, hb, hc⟩ := Rx.elem zH (Rx.of_ro hro) hy
        cases e
        have k0 := hc 0 _ rfl
        have k1 := hc 1 _ rfl
        have k2 := hc 2 _ rfl
        have k3 := hc 3 _ rfl
        rw [Nat.add_zero] at k0
        have hfl := wkF_length pc (hs.take j) (met, left)
        rw [List.length_take, unhide hL, Nat.min_eq_left (by omega)] at hfl
        simp only at hfl
        have m1 : ML (wr.alloc (.cells #[.int .i64 h.frm, .int .i64 h.to, .int .i64 h.target, .int .i64 h.height] 78)) Z (wkF pc (hs.take j) (met, left)).1 (wkF pc (hs.take j) (met, left)).2 lv2 := hD.ml.keep ((Fr.refl (fun _ => False) wr).alloc _) (fun e => e) (fun e => e) (fun e => e) (fun _ _ e => e)
        have HC := hide (wake1_any pc h (unhide HK h (List.mem_of_getElem? hx)) m1 (hD.bp.keep ((Fr.refl (fun _ => False) wr).alloc _) (fun e => e)) (hD.bq.keep ((Fr.refl (fun _ => False) wr).alloc _) (fun e => e)) (by omega) (by omega))
        have HX := hide hx
        have hz := hD.ml.bl.lt
        have hlo : ∀ k, lv2.ownBlock = some k → k < wr.heap.size := fun k hk => hD.ml.lf.lt k hk
        have HLO := hide hlo
        have hLeq := unhide hL
        clear hc hx hy hro m1 hfl hD hlo
        go_wp2_with fail
        refine (unhide HC).mono ?_
        rintro e X2 ⟨rfl, lv3, hM2, hF2, hN2⟩
        obtain ⟨RO2, FR2, NW2, BP2, BQ2⟩ := (unhide HD).ask (unhide HGL) (unhide HPL) (unhide HQL) (unhide HNI g rfl) (fun e => unhide HNP (.inl e)) (fun e => unhide HNQ (.inl e)) hF2 hN2
        have HM2 := hide hM2
        have nc := fun j z (hz : #[Value.int .i64 h.frm, .int .i64 h.to, .int .i64 h.target, .int .i64 h.height].toList[j]? = some z) => new_cells wr #[.int .i64 h.frm, .int .i64 h.to, .int .i64 h.target, .int .i64 h.height] 78 j z hz
        have hnb : ¬ mtS Z lv2 wr.heap.size := fun e => by
          rcases e with e | e | e
          · omega
          · omega
          · have := unhide HLO _ e; omega
        have hsz : wr.heap.size < (wr.alloc (.cells #[.int .i64 h.frm, .int .i64 h.to, .int .i64 h.target, .int .i64 h.height] 78)).heap.size := by rw [World.size_alloc]; omega
        have bx : ∀ (c : Nat) z, #[Value.int .i64 h.frm, .int .i64 h.to, .int .i64 h.target, .int .i64 h.height].toList[c]? = some z → X2.cell? ⟨wr.heap.size, c, none⟩ = some z := fun c z hz => by
          have h1 := nc c z hz
          rw [Go.WideShapes.add_plain, Nat.zero_add] at h1
          exact (hF2.cell (a := ⟨wr.heap.size, c, none⟩) hsz hnb).trans h1
        have x0 := bx 0 _ rfl
        have x1 := bx 1 _ rfl
        have x2 := bx 2 _ rfl
        have x3 := bx 3 _ rfl
        have xl : wr.heap.size < X2.heap.size := World.block_lt_of_cell? _ _ x0
        clear hM2 hF2 hN2 nc bx HC k0 k1 k2 k3 hsz
        cases hh : hol h pc with
        | true =>
          have HN : Hid (DlS X Z pb qb pc hs (met, left) lv g off ic i (j + 1) ys lv3 X2) := (unhide HD).hit (unhide HX) hh (unhide HM2) (unhide RO2) (unhide FR2) (unhide NW2) (unhide BP2) (unhide BQ2)
          clear hh x0 x1 x2 x3
          go_wp2_with fail
          go_roundg (gk - 1)
          case measure => have := unhide hj; omega
          case rel => exact ⟨i, j + 1, by have := unhide hj; unfold Hid; omega, rfl, by go_num, ys, lv3, HN⟩
        | false =>
          have hN := (unhide HD).miss (unhide HX) hh (unhide HM2) (unhide RO2) (unhide FR2) (unhide NW2) (unhide BP2) (unhide BQ2) (unhide HGL) (unhide HNI g rfl) (unhide HNZ g rfl) (fun e => unhide HNP (.inr (by rw [e]; rfl))) (fun e => unhide HNQ (.inr (by rw [e]; rfl)))
          have hro2 := unhide RO2
          obtain ⟨y, hy⟩ : ∃ y, ys[i]? = some y := ⟨_, List.getElem?_eq_getElem (by rw [(unhide HD).yl, unhide hL]; omega)⟩
          have hro3 := hro2
          rw [← (unhide HD).yl] at hro3
          obtain ⟨b', off', c', e, _, _, hb2, hc2⟩ := Rx.elem zH (Rx.of_ro hro3) hy
          rw [(unhide HD).yl] at e
          cases e
          have q0 := hc2 0 _ rfl
          have q1 := hc2 1 _ rfl
          have q2 := hc2 2 _ rfl
          have q3 := hc2 3 _ rfl
          rw [Nat.add_zero] at q0
          have z0 := hro2.free rfl (off + i * 4)
          have z1 := hro2.free rfl (off + i * 4 + 1)
          have z2 := hro2.free rfl (off + i * 4 + 2)
          have z3 := hro2.free rfl (off + i * 4 + 3)
          have hgn : g ≠ wr.heap.size := by have := (unhide HD).fr.size; have := unhide HGL; omega
          have HN := hide hN
          clear hN hro2 hro3 hy hc2 hh
          go_wp2_with fail
          go_roundg (gk - 1)
          case measure => have := unhide hj; omega
          case rel => exact ⟨i + 1, j + 1, by have := unhide hj; unfold Hid; omega, by go_num, by go_num, ys.set i h, lv3, HN⟩
      · have hjl : j = L := by have := hD.jn; rw [unhide hL] at this; omega
        subst hjl
        have i1 : ¬ (j : Int) < (j : Int) := by omega
        have hD2 := hD
        have hro := hD.ro
        rw [unhide hL] at hro
        have hcl := clear4 wr g (off + i * 4) (j - i) (ic - i) (by omega) (fun q hq => by
          obtain ⟨b', off', c', e, _, _, hb, hc⟩ := hro.full (by omega)
          cases e
          refine ⟨?_, hro.free rfl _⟩
          rw [Nat.add_assoc, hc (i * 4 + q) (by omega)]
          rw [List.getElem?_eq_getElem (by rw [flt_length zH, hD.yl, unhide hL]; omega)]; rfl)
        have HE : Hid (DlR X Z pb qb pc hs (met, left) lv (.slice (some ⟨g, off, none⟩) j ic) (.slice (some ⟨g, off, none⟩) i ic) lv2 (wr.setCells g (off + i * 4) (zrH (j - i)))) := by
          have := unhide hL
          subst this
          exact hD.done (unhide HGL) (unhide HNI g rfl) (unhide HNZ g rfl)
        have hij : i ≤ j := by omega
        clear hD hD2 hro HD
        go_wp2_with fail
        go_ret
        exact ⟨_, rfl, lv2, unhide HE⟩

set_option linter.unusedVariables false
set_option linter.unusedSimpArgs false
theorem Below.drewN {B : Nat} {a w : World} (h : Below B a w) (n : Nat) : Below B a (w.drewN n) := ⟨h.os, h.tape, h.output, h.size, h.block⟩
/-- What is taken, what is put. -/
def tkI (op a : Int) : Int := if okB op a then (tk op.toNat : Int) + (if kd op.toNat = 6 then a else 0) else 0
def ptI (op a : Int) : Int := if okB op a then (pt op.toNat : Int) else 0
theorem tk_le (k : Nat) (h : k < 67) : tk k ≤ 3 := by
  have : ∀ k : Fin 67, tk k.val ≤ 3 := by decide +kernel
  exact this ⟨k, h⟩
theorem pt_le (k : Nat) (h : k < 67) : pt k ≤ 2 := by
  have : ∀ k : Fin 67, pt k.val ≤ 2 := by decide +kernel
  exact this ⟨k, h⟩
theorem okB_op {k : Nat} (h : k < 67) (a : Int) : okB k a = rightB (kd k) a := by simp [okB, isOp_nat h]
theorem right6 {a : Int} (h : rightB 6 a = true) : 0 ≤ a ∧ a < 64 := by
  have e1 : lo 6 = 0 := rfl
  have e2 : hi 6 = 63 := rfl
  simp only [rightB, e1, e2] at h
  simp at h
  omega

set_option maxRecDepth 100000 in
set_option maxHeartbeats 2000000 in
theorem effect_any (w : World) (op a : Int) : Calls Tryz.prog 79 #[.agg #[.int .i64 op, .int .i64 a]] w fun e w' => e = .returned (.tuple #[.int .i64 (tkI op a), .int .i64 (ptI op a), .bool (okB op a)]) ∧ Below w.heap.size w w' := by
  have H1 := hide (fun w => check_any w op a)
  cases hok : okB op a
  · have e1 : erN op a = 7 := by simp [erN, hok]
    have e2 : tkI op a = 0 := by simp [tkI, hok]
    have e3 : ptI op a = 0 := by simp [ptI, hok]
    rw [e2, e3]
    rw [e1] at H1
    clear e1 e2 e3 hok
    go_enter Tryz.func79, Tryz.ntmps79
    go_wp2_with fail
    refine (unhide H1 _).mono ?_
    rintro e w1 ⟨rfl, hb⟩
    have HB := hide hb
    clear hb
    go_wp2
    go_ret3
    exact ⟨rfl, Bl.par (unhide HB)⟩
  · have hop : isOp op = true := by simp [okB] at hok; exact hok.1
    have h : 0 ≤ op ∧ op < 67 := by simpa [isOp] using hop
    obtain ⟨k, rfl⟩ : ∃ k : Nat, op = k := ⟨op.toNat, by omega⟩
    have hk : k < 67 := by omega
    have e1 : erN k a = 0 := by simp [erN, hok]
    have e3 : ptI k a = pt k := by simp [ptI, hok]
    rw [e3]
    rw [e1] at H1
    have H2 := hide (fun w => shapeOf_any w k hk)
    have ht := tk_le k hk
    by_cases h6 : kd k = 6
    · have hr : rightB 6 a = true := by rw [okB_op hk, h6] at hok; exact hok
      have hr := right6 hr
      have e2 : tkI k a = tk k + a := by simp [tkI, hok, h6]
      rw [e2]
      rw [h6] at H2
      generalize tk k = t at *
      generalize ((pt k : Nat) : Int) = p at *
      have ew : IntKind.i64.wrap ((t : Int) + a) = (t : Int) + a := by rw [IntKind.wrap_i64]; omega
      clear e1 e2 e3 hok hop h h6 hk hr ht
      go_enter Tryz.func79, Tryz.ntmps79
      go_wp2_with fail
      refine (unhide H1 _).mono ?_
      rintro e w1 ⟨rfl, hb⟩
      have HB := hide hb
      obtain ⟨c0, c1⟩ := par_cells hb
      clear hb
      go_wp2_with fail
      refine (unhide H2 _).mono ?_
      rintro e w2 ⟨rfl, hb2⟩
      have HB2 := hide hb2
      have d1 := (hb2.cell (p := ⟨w.heap.size, 1, none⟩) (World.block_lt_of_cell? _ _ c1)).trans c1
      have lt := World.block_lt_of_cell? _ _ d1
      clear hb2 c0 c1
      go_wp2_with fail
      go_quiet (fail)
      go_wp2_with fail
      go_ret3
      refine ⟨rfl, Go.Proofs.YtbkfnmkfbdoadaaGreatDoor.Below.drewN ?_ _⟩
      exact (Bl.go (Bl.par (unhide HB)) (by have := (unhide HB).size; simp at this; omega) (unhide HB2)).alloc (by have := (unhide HB).size; have := (unhide HB2).size; simp at *; omega) _
    · have h6' : (((kd k : Nat) : Int) == 6) = false := by simp; omega
      have e2 : tkI k a = tk k := by simp [tkI, hok, h6]
      rw [e2]
      generalize tk k = t at *
      generalize ((pt k : Nat) : Int) = p at *
      generalize ((kd k : Nat) : Int) = d at *
      clear e1 e2 e3 hok hop h h6 hk ht
      go_enter Tryz.func79, Tryz.ntmps79
      go_wp2_with fail
      refine (unhide H1 _).mono ?_
      rintro e w1 ⟨rfl, hb⟩
      have HB := hide hb
      obtain ⟨c0, c1⟩ := par_cells hb
      clear hb
      go_wp2_with fail
      refine (unhide H2 _).mono ?_
      rintro e w2 ⟨rfl, hb2⟩
      have HB2 := hide hb2
      clear hb2 c0 c1
      go_wp2_with fail
      go_quiet (fail)
      go_wp2_with fail
      go_ret3
      refine ⟨rfl, Go.Proofs.YtbkfnmkfbdoadaaGreatDoor.Below.drewN ?_ _⟩
      exact (Bl.go (Bl.par (unhide HB)) (by have := (unhide HB).size; simp at this; omega) (unhide HB2)).alloc (by have := (unhide HB).size; have := (unhide HB2).size; simp at *; omega) _

set_option maxRecDepth 100000 in
set_option maxHeartbeats 1000000 in
theorem jumps_any (w : World) (op : Int) : Calls Tryz.prog 80 #[.int .i64 op] w fun e w' => e = .returned (.bool (jmB op)) ∧ Below w.heap.size w w' := by
  by_cases h : 0 ≤ op ∧ op < 67
  · obtain ⟨k, rfl⟩ : ∃ k : Nat, op = k := ⟨op.toNat, by omega⟩
    have hk : k < 67 := by omega
    have H1 := hide (operand_any w (k : Int))
    rw [kdI_nat hk, isOp_nat hk] at H1
    rw [jm_kd k hk]
    generalize ((kd k : Nat) : Int) = d at *
    clear h hk
    go_enter Tryz.func80, Tryz.ntmps80
    go_wp2_with fail
    refine (unhide H1).mono ?_
    rintro e w1 ⟨rfl, hb⟩
    have HB := hide hb
    clear hb
    by_cases hd : d = 2
    all_goals
      go_wp2
      go_ret
      exact ⟨by simp_all, unhide HB⟩
  · have H1 := hide (operand_any w op)
    rw [kdI_no h, isOp_no h] at H1
    rw [jm_no h]
    clear h
    go_enter Tryz.func80, Tryz.ntmps80
    go_wp2_with fail
    refine (unhide H1).mono ?_
    rintro e w1 ⟨rfl, hb⟩
    have HB := hide hb
    clear hb
    go_wp2
    go_ret
    exact ⟨rfl, unhide HB⟩

set_option maxRecDepth 100000 in
set_option maxHeartbeats 1000000 in
theorem ends_any (w : World) (op : Int) : Calls Tryz.prog 44 #[.int .i64 op] w fun e w' => e = .returned (.bool (enB op)) ∧ w' = w := by
  unfold enB
  by_cases h0 : op = 40 <;> by_cases h1 : op = 44 <;> by_cases h2 : op = 45
  all_goals first | (exfalso; omega) | skip
  all_goals
    go_enter Tryz.func44, Tryz.ntmps44
    go_wp2
    go_ret
    simp_all
end Go.Proofs.YtbkfnmkfbdoadaaGreatDoor
