/-
  Code handed in: the state on the way.
-/
import Derived.Test.YtpbdmbmafjkinaaDoorRgB
namespace Go.Proofs.YtpbdmbmafjkinaaDoor
open Go.RowKit
set_option linter.unusedVariables false
set_option linter.unusedSimpArgs false
/-- The list of numbers is put among the others. -/
theorem HB.pushN {T0 T : Nat → Nat} {w wr : World} {p : Nat} {cf cr : Int} {cb ov iv nv nw : Value} {rv0 rv : Nat → Value} {vs0 vs : Nat → List Value} {bs : List BkR} {b : Bk} {ns : List Int} {cn : Nat → Nat} {ts : List TI}
    (h : HB T0 w p cf cr cb rv0 vs0 bs b iv nv nw ns ov ts cn T rv vs wr) (hts : ts = []) {l : List Int} {g o cp : Nat} {w1 w2 : World} {v' : Value} (hb : Below wr.heap.size wr w1) {m : Nat} (hu : Ro wr 1 (.slice (some ⟨g, o, none⟩) (l.length + 16) cp) (l.length + 16) (flt enI (l ++ mks mkN 16))) (hk : T g = 0 ∧ w.heap.size + 2 ≤ g)
    (hr : Ro w2 1 v' m (flt enV (vs 4) ++ enV (.slice (some ⟨g, o, none⟩) (l.length + 16) cp))) (hm : m = (vs 4).length + 1) (hg : w1.grownBy w2 (rv 4).ownBlock) (hat : v'.ownBlock = (rv 4).ownBlock ∨ v'.ownBlock = some w1.heap.size) :
    HB T0 w p cf cr cb rv0 vs0 bs b iv nv (.slice (some ⟨g, o, none⟩) l.length cp) l ov ts (upd cn 4 (cn 4 + 1)) (tl T wr.heap.size 4) (upd rv 4 v') (upd vs 4 (vs 4 ++ [.slice (some ⟨g, o, none⟩) (l.length + 16) cp])) (w2.setCell ⟨p, 5, none⟩ v') := by
  obtain ⟨q1, q2⟩ := h.push (t := 4) (by omega) (by omega) hb (u := .slice (some ⟨g, o, none⟩) (l.length + 16) cp) (by
    unfold QT
    rw [if_neg (by decide), if_neg (by decide), if_pos rfl]
    exact ⟨l, g, o, cp, rfl, hk.1, hu⟩) hr hm hg hat
  have hgl : g < wr.heap.size := hu.lt g rfl
  have q := hu.upto rfl (k := l.length) (by omega)
  rw [flt_take zI, List.take_left] at q
  refine q1.nxt hts (q.fr q2 (fun k e x => ?_)) (fun k e => ?_)
  · cases e; have x' : T g = 4 ∨ T g = 1 := x; omega
  · cases e; exact ⟨by rw [tl_lt _ _ hgl]; exact hk.1, hk.2⟩
theorem prow {T : Nat → Nat} {wr : World} {p : Nat} {cf cr : Int} {cb : Value} {rv : Nat → Value} {vs : Nat → List Value} {bs : List BkR} (h : HS T wr p cf cr cb rv vs bs) {t : Nat} (h2 : 2 ≤ t) (h6 : t ≤ 6) (X : Obj) (w2 : World) (hg : (wr.alloc X).grownBy w2 (rv t).ownBlock) : w2.heap[p]? = wr.heap[p]? := by
  have f1 : Fr (fun k => (rv t).ownBlock = some k) wr w2 := ((Fr.of_below (S := fun k => (rv t).ownBlock = some k) (box1n wr _))).trans ((Fr.refl _ _).grown hg (fun k e => .inr e))
  exact f1.block p h.lt (fun e => by have := h.tag t h2 h6 p e; have := h.tp; omega)
theorem box_three {V : World} {k : Nat} {a b c : Value} {t : TypeId} (h : V.heap[k]? = some (.cells #[a, b, c] t)) (x y z : Value) :
    (((V.setCell ⟨k, 0, none⟩ x).setCell ⟨k, 1, none⟩ y).setCell ⟨k, 2, none⟩ z).heap[k]? = some (.cells #[x, y, z] t) ∧ Fr (fun i => i = k) V (((V.setCell ⟨k, 0, none⟩ x).setCell ⟨k, 1, none⟩ y).setCell ⟨k, 2, none⟩ z) := by
  refine ⟨?_, (((Fr.refl (fun i => i = k) V).setCell ⟨k, 0, none⟩ (.inr rfl) x).setCell ⟨k, 1, none⟩ (.inr rfl) y).setCell ⟨k, 2, none⟩ (.inr rfl) z⟩
  rw [setCell_block (setCell_block (setCell_block h x) y) z]
  rfl
def cnF (l : List RIn) (i : Nat) : Nat → Nat := fun t => if t = 2 then inW (l.take i) else if t = 3 then i else if t = 4 then 1 else 0
theorem cnF_zero (l : List RIn) : (fun t => if t = 4 then 1 else 0) = cnF l 0 := by
  funext t
  unfold cnF
  by_cases h2 : t = 2
  · subst h2; simp [inW]
  · by_cases h3 : t = 3
    · subst h3; simp
    · simp [h2, h3]
theorem cnF_succ {l : List RIn} {i : Nat} {x : RIn} (h : l[i]? = some x) : upd (upd (upd (cnF l i) 2 (cnF l i 2 + 1)) 2 (upd (cnF l i) 2 (cnF l i 2 + 1) 2 + x.ex.length)) 3 (upd (cnF l i) 2 (cnF l i 2 + 1) 3 + 1) = cnF l (i + 1) := by
  funext t
  have := inW_push h
  by_cases h2 : t = 2
  · subst h2; simp [upd, cnF]; omega
  · by_cases h3 : t = 3
    · subst h3; simp [upd, cnF]
    · simp [upd, cnF, h2, h3]
set_option maxRecDepth 100000 in
set_option maxHeartbeats 12800000 in
theorem handBlock_any {T0 : Nat → Nat} {w : World} {p : Nat} {cf cr : Int} {cb : Value} {rv0 : Nat → Value} {vs0 : Nat → List Value} {bs : List BkR} {b : Bk} {r0 : BkR} (hh : HS T0 w p cf cr cb rv0 vs0 bs) (hl : BkP (fun k => T0 k = 0) w b r0)
    (hN : b.ins.length ≤ 1073741824) (hX : b.nx.length ≤ 1073741824) (hM : ∀ x ∈ b.ins, x.args.length ≤ 1073741824 ∧ x.ex.length ≤ 1073741824 ∧ ∀ s ∈ x.ex, s.sl.length ≤ 1073741824) (h2 : (vs0 2).length + inW b.ins ≤ 1073741824) (h3 : (vs0 3).length + b.ins.length ≤ 1073741824) (h4 : (vs0 4).length ≤ 1073741824) (h5 : (vs0 5).length ≤ 1073741824) :
    Calls Tryd.prog 21 #[.pointer (some ⟨p, 0, none⟩), bkV r0] w fun e w' => ∃ r, e = .returned (bkV r) ∧ HBk T0 w p cf cr cb rv0 vs0 bs b r w' := by
  obtain ⟨rp, iv, nv⟩ := r0
  obtain ⟨hp1, hI, hNx⟩ := hl
  dsimp only at hp1 hI hNx
  subst hp1
  obtain ⟨ia, ic, rfl, hi1, hi2⟩ := NV.shape hI
  obtain ⟨na, nc, rfl, hn1, hn2⟩ := hNx.1.shape
  have HI := hide hI
  have HNX := hide hNx
  have HM := hide hM
  unfold maxLen at hi2 hn2
  clear hI hNx hM
  obtain ⟨L, hL⟩ : ∃ L, Hid (b.ins.length = L) := ⟨_, hide rfl⟩
  obtain ⟨N, hNN⟩ : ∃ N, Hid (b.nx.length = N) := ⟨_, hide rfl⟩
  rw [unhide hL] at hi1 hN h3 HI ⊢
  rw [unhide hNN] at hn1 hX HNX ⊢
  have HX := hide (HB.start hh b (.slice ia L ic) (.slice na N nc))
  have HB0 := hide (bl_two w (.cells #[.int .i64 b.pc, .slice ia L ic, .slice na N nc] 47) (.cells #[.int .i64 0, .slice none 0 0, .slice none 0 0] 47))
  clear hh
  unfold bkV
  go_enter Tryd.func21, Tryd.ntmps21
  go_wp2_with fail
  obtain ⟨w0, hw0⟩ : ∃ w0, Hid ((w.alloc (.cells #[.int .i64 b.pc, .slice ia L ic, .slice na N nc] 47)).alloc (.cells #[.int .i64 0, .slice none 0 0, .slice none 0 0] 47) = w0) := ⟨_, hide rfl⟩
  rw [unhide hw0] at HX HB0 ⊢
  clear hw0
  go_loopg [5, 6] N (fun gg t5 t6 wr => ∃ (i : Nat) (cv : Value), Hid (i + gg = N) ∧ t5 = cv ∧ t6 = .int .i64 (i : Int) ∧ Hid (Gx w0 1 enI (b.nx.take i) cv wr))
  case atStart => exact ⟨0, _, by unfold Hid; omega, rfl, rfl, ⟨by simpa [flt] using Ro.nil w0 1, Below.refl _ _, (fun k e => by cases e)⟩⟩
  case round =>
    obtain ⟨i, cv, hi, rfl, rfl, hG⟩ := hrel
    obtain ⟨c1, c2, c3⟩ := blk_cells (((unhide hG).2.1.block _ (by have := (unhide HX).sz; omega)).trans (unhide HX).b3)
    have y0 := c1 0
    have y1 := c1 1
    have y2 := c1 2
    simp at y0 y1 y2
    clear c1 c2
    by_cases hlt : i < N
    · obtain ⟨n, hn⟩ : ∃ n, b.nx[i]? = some n := ⟨_, List.getElem?_eq_getElem (by rw [unhide hNN]; exact hlt)⟩
      have HNX' := HNX
      rw [← unhide hNN] at HNX'
      obtain ⟨gb, off, cap, e, hb, _, hc⟩ := (unhide HNX').at hn
      rw [unhide hNN] at e
      cases e
      have hw := (unhide HB0).size
      have hbs := (unhide hG).2.1.size
      have k0 := hc wr (((unhide hG).2.1.block gb (by omega)).trans ((unhide HB0).block gb hb))
      have hb' : gb < wr.heap.size := by omega
      have i0 : (0 : Int) ≤ (i : Int) := by omega
      have i1 : (i : Int) < (N : Int) := by omega
      have HO := hide hn
      have HRo := hide (unhide hG).1
      have HLB : Hid ((b.nx.take i).length ≤ 1099511627776) := by rw [List.length_take, unhide hNN]; unfold Hid; omega
      clear hn hc hw hbs HNX'
      go_wp2_with (first | (at_builtin; refine appI rfl _ _ rfl _ (b.nx.take i) rfl ((unhide HRo).keep (fun g hg => Below.heap_alloc _ _ _ ((unhide HRo).lt g hg))) ⟨wr.heap.size, 0, none⟩ 1 n rfl (new_cells _ _ _) (unhide HLB) ?_))
      intro v' w' hr hg hat
      have HG2 := hide ((unhide hG).push hr (by simp) hg (by simpa using hat))
      rw [← take_push (unhide HO)] at HG2
      clear hr hg hat HRo HLB k0 hb' y0 y1 y2 c3
      go_wp2_with fail
      go_roundg (gk - 1)
      case measure => have := unhide hi; omega
      case rel => exact ⟨i + 1, v', by have := unhide hi; unfold Hid; omega, rfl, by go_num, HG2⟩
    · have hiL : i = N := by have := unhide hi; omega
      subst hiL
      rw [List.take_of_length_le (by rw [unhide hNN]; exact Nat.le_refl _)] at hG
      go_wp2_with fail
      clear y0 y1 y2 c3
      go_loopg [5, 7] 16 (fun g t5 t6 wq => ∃ (j : Nat) (cv : Value), Hid (j + g = 16) ∧ t5 = cv ∧ t6 = .int .i64 (j : Int) ∧ Hid (Gx w0 1 enI (b.nx ++ mks mkN j) cv wq))
      case atStart => exact ⟨0, _, by unfold Hid; omega, rfl, rfl, by simpa [mks] using hG⟩
      case round =>
        clear hG
        obtain ⟨j, cv, hj, rfl, rfl, hG⟩ := hrel
        by_cases hjt : j < 16
        · have j0 : (0 : Int) ≤ (j : Int) := by omega
          have j1 : (j : Int) < 16 := by omega
          have HRo := hide (unhide hG).1
          have HLB : Hid ((b.nx ++ mks mkN j).length ≤ 1099511627776) := by rw [List.length_append, mks_length, unhide hNN]; unfold Hid; omega
          go_wp2_with (first | (at_builtin; refine appI rfl _ _ rfl _ (b.nx ++ mks mkN j) rfl ((unhide HRo).keep (fun g hg => Below.heap_alloc _ _ _ ((unhide HRo).lt g hg))) ⟨wr.heap.size, 0, none⟩ 1 (mkN j) rfl (new_cells _ _ _) (unhide HLB) ?_))
          intro v' w' hr hg hat
          have HG2 := hide ((unhide hG).push hr (by simp) hg (by simpa using hat))
          rw [List.append_assoc, ← mks_succ] at HG2
          clear hr hg hat HRo HLB
          go_wp2_with fail
          go_roundg (gk - 1)
          case measure => have := unhide hj; omega
          case rel => exact ⟨j + 1, v', by have := unhide hj; unfold Hid; omega, rfl, by go_num, HG2⟩
        · have hj16 : j = 16 := by have := unhide hj; omega
          subst hj16
          obtain ⟨g1, g2, g3⟩ := unhide hG
          rw [List.length_append, mks_length, unhide hNN] at g1
          obtain ⟨ob, oo, oc, eo, ho1, ho2, hob, _⟩ := g1.full (by omega)
          subst eo
          unfold maxLen at ho2
          have hobw := g3 ob rfl
          have H1 := hide ((unhide HX).below g2 0)
          obtain ⟨z3, z4, z5, z6, z7, zf, zl⟩ := (unhide H1).hs.cell
          have zf5 := zf 5
          have HROW := hide ((unhide H1).hs.row 4 (by omega) (by omega))
          have HLB : Hid ((vs0 4).length ≤ 1099511627776) := by unfold Hid; omega
          have n0 : (0 : Int) ≤ (i : Int) := by omega
          have n1 : (i : Int) ≤ (oc : Int) := by omega
          have HG1 := hide g1
          clear zf z3 z4 z6 z7 g1 hG
          go_wp2_with (first | (at_builtin; refine appVN rfl _ _ rfl _ (vs0 4) rfl ((unhide HROW).keep (fun g hg => Below.heap_alloc _ _ _ ((unhide HROW).lt g hg))) ⟨wr.heap.size, 0, none⟩ 1 (.slice (some ⟨ob, oo, none⟩) (i + 16) oc) rfl (new_cells _ _ _) rfl (unhide HLB) ?_))
          intro v' w2 hr hg hat
          obtain ⟨va, vc, ev, _, _⟩ := hr.shape
          subst ev
          have hp2 := prow (unhide H1).hs (t := 4) (by omega) (by omega) _ w2 hg
          have z5' : w2.cell? ⟨p, 5, none⟩ = some (rv0 4) := (World.cell?_of_block hp2).trans z5
          have zf5' : w2.frozen? ⟨p, 5, none⟩ = false := (World.frozen?_of_block hp2).trans zf5
          have zl' : p < w2.heap.size := Nat.lt_of_lt_of_le zl (Nat.le_trans (by simp) hg.size)
          have hwo := (unhide HX).sz
          have HH := hide ((unhide H1).pushN rfl (l := b.nx) (box1n wr _) (by rw [unhide hNN]; exact unhide HG1) ⟨tl_ge _ _ hobw, by omega⟩ (by rw [unhide hNN]; exact hr) rfl hg (by simpa using hat))
          rw [unhide hNN] at HH
          obtain ⟨rv1, hrv1⟩ : ∃ rv1, Hid (upd rv0 4 (.slice va ((vs0 4).length + 1) vc) = rv1) := ⟨_, hide rfl⟩
          obtain ⟨vs1, hvs1⟩ : ∃ vs1, Hid (upd vs0 4 (vs0 4 ++ [.slice (some ⟨ob, oo, none⟩) (i + 16) oc]) = vs1) := ⟨_, hide rfl⟩
          obtain ⟨T1, hT1⟩ : ∃ T1, Hid (tl (tl (tl T0 w.heap.size 9) w0.heap.size 0) wr.heap.size 4 = T1) := ⟨_, hide rfl⟩
          have HC : Hid (upd (fun _ : Nat => 0) 4 ((fun _ : Nat => 0) 4 + 1) = fun t => if t = 4 then 1 else 0) := by unfold Hid upd; rfl
          rw [unhide hrv1, unhide hvs1, unhide hT1, unhide HC] at HH
          clear hr hg hat hp2 HROW HLB H1 z5 zf5 hrv1 hvs1 hT1 HC HX HG1 hobw g2 g3 hwo HB0
          go_wp2_with fail
          obtain ⟨Y, hY⟩ : ∃ Y, Hid (w2.setCell ⟨p, 5, none⟩ (.slice va ((vs0 4).length + 1) vc) = Y) := ⟨_, hide rfl⟩
          rw [unhide hY] at HH ⊢
          rw [cnF_zero b.ins] at HH
          clear hY z5' zf5' zl' zl
          go_loopg [8, 9] L (fun gg t8 t9 wq => ∃ (j : Nat) (ov : Value) (rs : List TI) (T : Nat → Nat) (rv : Nat → Value) (vs : Nat → List Value), Hid (j + gg = L) ∧ t8 = ov ∧ t9 = .int .i64 (j : Int) ∧ Hid (rs.length = j) ∧ Hid (HB T0 w p cf cr cb rv0 vs0 bs b (.slice ia L ic) (.slice na i nc) (.slice (some ⟨ob, oo, none⟩) i oc) b.nx ov rs (cnF b.ins j) T rv vs wq))
          case atStart => exact ⟨0, _, _, _, _, _, by unfold Hid; omega, rfl, rfl, hide rfl, HH⟩
          case round =>
            clear HH hi hj
            obtain ⟨j, ov, rs, T, rv, vs, hj, hov, rfl, hrs, hH⟩ := hrel
            subst hov
            obtain ⟨c1, c2, c3⟩ := blk_cells (unhide hH).b3
            have y0 := c1 0
            have y1 := c1 1
            have y2 := c1 2
            simp at y0 y1 y2
            clear c1 c2
            by_cases hlt : j < L
            · obtain ⟨x, hx⟩ : ∃ x, b.ins[j]? = some x := ⟨_, List.getElem?_eq_getElem (by rw [unhide hL]; exact hlt)⟩
              have HI' := HI
              rw [← unhide hL] at HI'
              obtain ⟨eb, off, cap, aa, ac, ea, ec, e, hb, hD, hp3, hs1, hs2, hp4, hs3, hs4, hcl⟩ := (unhide HI').at hx
              rw [unhide hL] at e
              cases e
              have i0 : (0 : Int) ≤ (j : Int) := by omega
              have i1 : (j : Int) < (L : Int) := by omega
              have HX1 := hide hx
              have HCL := hide hcl
              have h0b : T0 eb = 0 := hD
              have HOLD : Hid (∀ q ∈ rs, ∀ k, blT q k → k < wr.heap.size) := fun q hq k hk => ((unhide hH).bt q k hq hk).2.2.1
              have HNW : Hid (∀ k, (Value.slice (some ⟨ob, oo, none⟩) i oc).ownBlock = some k → k < wr.heap.size) := fun k hk => (unhide hH).nx.lt k hk
              obtain ⟨hm1, hm2, hm3⟩ := unhide HM x (List.mem_of_getElem? hx)
              have HFB : Hid (∀ W : World, Fr (fun k => 1 ≤ T0 k ∧ T0 k ≤ 5) w W → W.heap[eb]? = w.heap[eb]? ∧ eb < W.heap.size) := fun W f => ⟨f.block eb hb (by show ¬ (1 ≤ T0 eb ∧ T0 eb ≤ 5); omega), Nat.lt_of_lt_of_le hb f.size⟩
              obtain ⟨hbb, hbr⟩ := unhide HFB wr (unhide hH).fr
              obtain ⟨k0, k1, k2, k3, k4, k5, k6, k7⟩ := unhide HCL wr hbb
              have HBX := hide (box1n wr (.cells #[.int .i64 x.op, .int .i64 x.code, .int .i64 x.dst, .slice aa x.args.length ac, .int .i64 x.n, .int .i64 x.pc, .int .i64 x.need, .slice ea x.ex.length ec] 51))
              have HXB := hide (heap_alloc_new wr (.cells #[.int .i64 x.op, .int .i64 x.code, .int .i64 x.dst, .slice aa x.args.length ac, .int .i64 x.n, .int .i64 x.pc, .int .i64 x.need, .slice ea x.ex.length ec] 51))
              obtain ⟨Wx, hWx⟩ : ∃ Wx, Hid (wr.alloc (.cells #[.int .i64 x.op, .int .i64 x.code, .int .i64 x.dst, .slice aa x.args.length ac, .int .i64 x.n, .int .i64 x.pc, .int .i64 x.need, .slice ea x.ex.length ec] 51) = Wx) := ⟨_, hide rfl⟩
              have hWxs : Wx.heap.size = wr.heap.size + 1 := by rw [← unhide hWx]; simp
              rw [unhide hWx] at HBX HXB
              have H1 := hide ((unhide hH).below (unhide HBX) 8)
              have HCALL := hide (markedOpnds_any (D := fun k => T0 k = 0) (w := Wx) (av := .slice aa x.args.length ac) (l := x.args) (OpV.mv _ _ _ _ _ _ _ hp3 (unhide H1).fr (fun k hk e => ⟨by show ¬ (1 ≤ T0 k ∧ T0 k ≤ 5); omega, e⟩)) hm1)
              have HSX := hide hp4
              have HM3 := hide hm3
              obtain ⟨c1, c2, c3'⟩ := blk_cells (unhide H1).b3
              have y1x := c1 1
              simp at y1x
              obtain ⟨hbbx, hbrx⟩ := unhide HFB Wx (unhide H1).fr
              have k3x := (unhide HCL Wx hbbx).2.2.2.1
              have hWx' := unhide hWx
              unfold maxLen at hs2 hs4
              clear hcl hx hp3 hp4 hD HI' hbb c1 c2 hm3 hbbx
              go_wp2_with fail
              refine (unhide HCALL).mono ?_
              rintro e w1 ⟨sv, rfl, G1⟩
              clear HCALL k0 k1 k2 k3 k4 k5 k6 k7 hbr hWx' hbrx k3x y0 y1 y2 y1x c3 c3'
              obtain ⟨nb, no, nc', esv, hn1', hn2', hn3', hn4'⟩ := G1.1.full (by rw [List.length_append, mks_length]; omega)
              rw [List.length_append, mks_length] at esv hn1'
              subst esv
              unfold maxLen at hn2'
              have H2 := hide ((unhide H1).below G1.2.1 0)
              have HXB2 := hide ((G1.2.1.block wr.heap.size (by omega)).trans (unhide HXB))
              have HQ : Hid (QT 2 (fun k => tl (tl T wr.heap.size 8) Wx.heap.size 0 k = 0) w1 (.slice (some ⟨nb, no, none⟩) (x.args.length + 16) nc')) := MR.of_gx G1 (fun k hk => tl_ge _ _ hk)
              have HRO := hide G1.1
              have hnb := G1.2.2 nb rfl
              obtain ⟨T2, hT2⟩ : ∃ T2, Hid (tl (tl T wr.heap.size 8) Wx.heap.size 0 = T2) := ⟨_, hide rfl⟩
              have hTx : T2 wr.heap.size = 8 := by rw [← unhide hT2, tl_lt _ _ (by omega), tl_ge _ _ (Nat.le_refl _)]
              have hTn : T2 nb = 0 := by rw [← unhide hT2, tl_ge _ _ hnb]
              rw [unhide hT2] at H2 HQ
              have hxs : wr.heap.size < w1.heap.size := by have := G1.2.1.size; omega
              obtain ⟨z3, z4, z5, z6, z7, zf, zl⟩ := (unhide H2).hs.cell
              have zf3 := zf 3
              have HROW := hide ((unhide H2).hs.row 2 (by omega) (by omega))
              have HLB : Hid ((vs 2).length ≤ 1099511627776) := by have h1 := (unhide H2).cn 2 (by omega) (by omega); have h2' := inW_le b.ins j; simp only [cnF, if_pos] at h1; unfold Hid; omega
              clear zf z4 z5 z6 z7 G1 hn4' HXB
              go_wp2_with (first | (at_builtin; refine appVO rfl _ _ rfl _ (vs 2) rfl ((unhide HROW).keep (fun g hg => Below.heap_alloc _ _ _ ((unhide HROW).lt g hg))) ⟨w1.heap.size, 0, none⟩ 1 (.slice (some ⟨nb, no, none⟩) (x.args.length + 16) nc') rfl (new_cells _ _ _) rfl (unhide HLB) ?_))
              intro v' w2 hr hg hat
              obtain ⟨va', vc', ev, _, _⟩ := hr.shape
              subst ev
              have hp2 := prow (unhide H2).hs (t := 2) (by omega) (by omega) _ w2 hg
              have z3' : w2.cell? ⟨p, 3, none⟩ = some (rv 2) := (World.cell?_of_block hp2).trans z3
              have zf3' : w2.frozen? ⟨p, 3, none⟩ = false := (World.frozen?_of_block hp2).trans zf3
              have zl' : p < w2.heap.size := Nat.lt_of_lt_of_le zl (Nat.le_trans (by simp) hg.size)
              obtain ⟨q1, q2⟩ := (unhide H2).push (t := 2) (by omega) (by omega) (box1n w1 _) (unhide HQ) hr rfl hg (by simpa using hat)
              obtain ⟨W3, hW3⟩ : ∃ W3, Hid (w2.setCell ⟨p, 3, none⟩ (.slice va' ((vs 2).length + 1) vc') = W3) := ⟨_, hide rfl⟩
              rw [show (2 + 1 : Nat) = 3 from rfl, unhide hW3] at q1 q2
              have H3 := hide q1
              have hxl : wr.heap.size < W3.heap.size := Nat.lt_of_lt_of_le hxs q2.size
              have hx3 := (q2.block wr.heap.size hxs (by show ¬ (T2 _ = 2 ∨ T2 _ = 1); omega)).trans (unhide HXB2)
              have HR3 : Hid (Ro W3 2 (.slice (some ⟨nb, no, none⟩) (x.args.length + 16) nc') (x.args.length + 16) (flt enO (x.args ++ mks mkO 16))) := by
                have := unhide HRO
                rw [List.length_append, mks_length] at this
                exact this.fr q2 (fun k hk e => by cases hk; have e' : T2 nb = 2 ∨ T2 nb = 1 := e; omega)
              obtain ⟨T3, hT3⟩ : ∃ T3, Hid (tl T2 w1.heap.size 2 = T3) := ⟨_, hide rfl⟩
              have hTx3 : T3 wr.heap.size = 8 := by rw [← unhide hT3, tl_lt _ _ hxs]; exact hTx
              have hTn3 : T3 nb = 0 := by rw [← unhide hT3, tl_lt _ _ hn3']; exact hTn
              rw [unhide hT3] at H3
              clear hr hg hat z3 zf3 hp2 q1 q2 HROW HLB HRO HXB2 HBX hTx hTn H1 H2 HQ
              obtain ⟨hbb, hbr⟩ := unhide HFB W3 (unhide H3).fr
              have k3 := (unhide HCL W3 hbb).2.2.2.1
              obtain ⟨c1, c2, c3⟩ := blk_cells (unhide H3).b3
              have y1 := c1 1
              simp at y1
              obtain ⟨x1, x2, x3⟩ := blk_cells hx3
              have xc := x1 3
              have xf := x2 3
              simp at xc
              have n0' : (0 : Int) ≤ (x.args.length : Int) := by omega
              have n1' : (x.args.length : Int) ≤ (nc' : Int) := by omega
              have hws : w.heap.size + 2 ≤ wr.heap.size := (unhide hH).sz
              have fx : Fr (fun k => k = wr.heap.size) W3 (W3.setCell ⟨wr.heap.size, 3, none⟩ (.slice (some ⟨nb, no, none⟩) x.args.length nc')) := Fr.setCell (S := fun k => k = wr.heap.size) (Fr.refl _ W3) ⟨wr.heap.size, 3, none⟩ (.inr rfl) _
              have HH4 := hide ((unhide H3).other fx hws hTx3)
              have hx4 := setCell_block (g := wr.heap.size) (o := 3) hx3 (.slice (some ⟨nb, no, none⟩) x.args.length nc')
              obtain ⟨W4, hW4⟩ : ∃ W4, Hid (W3.setCell ⟨wr.heap.size, 3, none⟩ (.slice (some ⟨nb, no, none⟩) x.args.length nc') = W4) := ⟨_, hide rfl⟩
              rw [unhide hW4] at fx HH4 hx4
              simp at hx4
              have HAR : Hid (Ro W4 2 (.slice (some ⟨nb, no, none⟩) x.args.length nc') x.args.length (flt enO x.args)) := by
                have q := (unhide HR3).upto rfl (k := x.args.length) (by omega)
                rw [flt_take zO, List.take_left] at q
                refine q.fr fx (fun k hk e => ?_)
                have e' : k = wr.heap.size := e
                have hk' : nb = k := by cases hk; rfl
                omega
              have HC14 := hide (handShapes_any (l := x.ex) (lv := .slice ea x.ex.length ec) (unhide HH4).hs (ShsV.mv _ _ _ _ _ _ _ (unhide HSX) (unhide HH4).fr (fun k hk e => ⟨by show ¬ (1 ≤ T0 k ∧ T0 k ≤ 5); omega, by show T3 k = 0; rw [(unhide HH4).tk k hk]; exact e⟩)) hm2 (unhide HM3) (by
                have h1 := (unhide HH4).cn 2 (by omega) (by omega)
                have h2' := inW_le b.ins (j + 1)
                rw [inW_push (unhide HX1)] at h2'
                rw [show upd (cnF b.ins j) 2 (cnF b.ins j 2 + 1) 2 = inW (b.ins.take j) + 1 by simp [upd, cnF]] at h1
                rw [h1]; omega) (by
                have h1 := (unhide HH4).cn 3 (by omega) (by omega)
                rw [show upd (cnF b.ins j) 2 (cnF b.ins j 2 + 1) 3 = j by simp [upd, cnF]] at h1
                rw [h1]; omega))
              obtain ⟨hbb4, hbr4⟩ := unhide HFB W4 (unhide HH4).fr
              have k7 := (unhide HCL W4 hbb4).2.2.2.2.2.2.2
              obtain ⟨d1, d2, d3⟩ := blk_cells (unhide HH4).b3
              have y1' := d1 1
              simp at y1'
              have hW3' := unhide hW3
              have hW4' := unhide hW4
              clear c1 c2 x1 x2 hx3 hbb hbb4 d1 d2 H3 fx HR3 HSX HM3
              go_wp2_with fail
              refine (unhide HC14).mono ?_
              rintro e w5 ⟨vx, rfl, hSh⟩
              clear HC14 k7 k3 y1 y1' z3' zf3' zl' zl xc xf hbr hbr4 hW3' hW4' c3 x3 d3
              obtain ⟨T5, rv5, vs5, rs5, g1, g2, g3, g4, g4b⟩ := (unhide HH4).shapes hSh
              rw [cnF_succ (unhide HX1)] at g1
              obtain ⟨xa, xcp, rfl, hx1, hx2⟩ := g4.row.shape
              have hw4s : wr.heap.size < W4.heap.size := (blk_cells hx4).2.2
              have hx5 := (g3.block wr.heap.size hw4s (by show ¬ (1 ≤ T3 _ ∧ T3 _ ≤ 3); omega)).trans hx4
              have hTx5 : T5 wr.heap.size = 8 := by rw [g2 _ hw4s]; exact hTx3
              have fx : Fr (fun k => k = wr.heap.size) w5 (w5.setCell ⟨wr.heap.size, 7, none⟩ (.slice xa x.ex.length xcp)) := Fr.setCell (S := fun k => k = wr.heap.size) (Fr.refl _ w5) ⟨wr.heap.size, 7, none⟩ (.inr rfl) _
              have hx6 := setCell_block (g := wr.heap.size) (o := 7) hx5 (.slice xa x.ex.length xcp)
              have HH6 := hide (g1.other fx hws hTx5)
              have hnl := (unhide HAR).lt nb rfl
              have hbs : ∀ k, blSh (.slice xa x.ex.length xcp) rs5 k → k ≠ wr.heap.size := fun k hk e => by have := (g4b k hk).2; omega
              have HIN : Hid (InT (w5.setCell ⟨wr.heap.size, 7, none⟩ (.slice xa x.ex.length xcp)) x ((⟨x.op, x.code, x.dst, .slice (some ⟨nb, no, none⟩) x.args.length nc', x.n, x.pc, x.need, .slice xa x.ex.length xcp⟩ : InR), rs5)) := by
                refine ⟨⟨rfl, rfl, rfl, rfl, rfl, rfl⟩, ?_, g4.len, g4.row.fr fx (fun k hk e => hbs k (.inl hk) e), fun j s r hs hr => (g4.s j s r hs hr).fr fx (fun k hk e => hbs k (.inr ⟨r, List.mem_of_getElem? hr, hk⟩) e), fun k hk e => ?_, fun r k hr hk => ⟨fun e => ?_, g4.ne r k hr hk⟩, g4.ss⟩
                · refine ((unhide HAR).fr g3 (fun k hk e => ?_)).fr fx (fun k hk e => ?_)
                  · have hk' : nb = k := by cases hk; rfl
                    subst hk'
                    have e' : 1 ≤ T3 nb ∧ T3 nb ≤ 3 := e
                    omega
                  · have hk' : nb = k := by cases hk; rfl
                    have e' : k = wr.heap.size := e
                    omega
                · have hk' : nb = k := by cases hk; rfl
                  subst hk'
                  have := (g4b nb (.inl e)).2
                  omega
                · have hk' : nb = k := by cases e; rfl
                  subst hk'
                  have := (g4b nb (.inr ⟨r, hr, hk⟩)).2
                  omega
              have HNB : Hid (∀ k, blT ((⟨x.op, x.code, x.dst, .slice (some ⟨nb, no, none⟩) x.args.length nc', x.n, x.pc, x.need, .slice xa x.ex.length xcp⟩ : InR), rs5) k → T5 k = 0 ∧ w.heap.size + 2 ≤ k ∧ k < (w5.setCell ⟨wr.heap.size, 7, none⟩ (.slice xa x.ex.length xcp)).heap.size ∧ wr.heap.size < k) := fun k hk => by
                have key : ∀ k, blSh (.slice xa x.ex.length xcp) rs5 k → T5 k = 0 ∧ w.heap.size + 2 ≤ k ∧ k < (w5.setCell ⟨wr.heap.size, 7, none⟩ (.slice xa x.ex.length xcp)).heap.size ∧ wr.heap.size < k := fun k hk => by
                  have h1 := g4b k hk
                  exact ⟨h1.1, by omega, Nat.lt_of_lt_of_le (g4.lt hk) fx.size, by omega⟩
                rcases hk with q | q | ⟨r, hr, q⟩
                · have hk' : nb = k := by cases q; rfl
                  subst hk'
                  exact ⟨by rw [g2 nb hnl]; exact hTn3, by omega, Nat.lt_of_lt_of_le (Nat.lt_of_lt_of_le hnl g3.size) fx.size, by omega⟩
                · exact key k (.inl q)
                · exact key k (.inr ⟨r, hr, q⟩)
              obtain ⟨x1, x2, x3⟩ := blk_cells hx5
              have xc := x1 7
              have xf := x2 7
              simp at xc
              obtain ⟨W6, hW6⟩ : ∃ W6, Hid (w5.setCell ⟨wr.heap.size, 7, none⟩ (.slice xa x.ex.length xcp) = W6) := ⟨_, hide rfl⟩
              rw [unhide hW6] at HH6 HIN HNB hx6
              simp at hx6
              obtain ⟨u1, u2, u3⟩ := blk_cells hx6
              have e0 := u1 0
              have e1 := u1 1
              have e2 := u1 2
              have e3 := u1 3
              have e4 := u1 4
              have e5 := u1 5
              have e6 := u1 6
              have e7 := u1 7
              simp at e0 e1 e2 e3 e4 e5 e6 e7
              have HROW := hide (unhide HH6).ow
              have HLB : Hid (rs.length ≤ 1099511627776) := by rw [unhide hrs]; unfold Hid; omega
              have hW6' := unhide hW6
              clear x1 x2 u1 u2 hx5 hx6 hx4 fx g1 g2 g3 g4 g4b hbs hnl hSh HH4 HAR HFB HCL hTx3 hTn3 hTx5 hnb hw4s
              go_wp2_with (first | (at_builtin; refine appT rfl _ _ rfl _ rs rfl ((unhide HROW).keep (fun g hg => Below.heap_alloc _ _ _ ((unhide HROW).lt g hg))) ⟨W6.heap.size, 0, none⟩ 1 (⟨x.op, x.code, x.dst, .slice (some ⟨nb, no, none⟩) x.args.length nc', x.n, x.pc, x.need, .slice xa x.ex.length xcp⟩, rs5) rfl (new_cells _ _ _) rfl rfl (unhide HLB) ?_))
              intro v7 w7 hr hg hat
              have H7 := hide ((unhide HH6).out (box1n _ _) (fun s' hs' => by
                rw [unhide hrs, unhide HX1] at hs'
                cases hs'
                exact unhide HIN) (fun k hk => by
                obtain ⟨h1, h2, h3, h4⟩ := unhide HNB k hk
                exact ⟨h1, h2, h3, fun e => by have := unhide HNW k e; omega, fun q hq e => by have := unhide HOLD q hq k e; omega⟩) hr rfl hg (by simpa using hat))
              have HRL : Hid ((rs ++ [((⟨x.op, x.code, x.dst, .slice (some ⟨nb, no, none⟩) x.args.length nc', x.n, x.pc, x.need, .slice xa x.ex.length xcp⟩, rs5) : TI)]).length = j + 1) := by rw [List.length_append, unhide hrs]; rfl
              clear hr hg hat HH6 HROW HIN HNB HNW HOLD HLB hW6 hW6' e0 e1 e2 e3 e4 e5 e6 e7 u3 xc xf x3
              go_wp2_with fail
              go_roundg (gk - 1)
              case measure => have := unhide hj; omega
              case rel => exact ⟨j + 1, v7, _, _, _, _, by have := unhide hj; unfold Hid; omega, rfl, by go_num, HRL, H7⟩
            · have hjL : j = L := by have := unhide hj; omega
              subst hjL
              clear HI HM
              go_wp2_with fail
              clear y0 y1 y2 c3
              go_loopg [8, 12] 16 (fun g t8 t12 wq => ∃ (m : Nat) (cv : Value) (T' : Nat → Nat), Hid (m + g = 16) ∧ t8 = cv ∧ t12 = .int .i64 (m : Int) ∧ Hid (HB T0 w p cf cr cb rv0 vs0 bs b (.slice ia j ic) (.slice na i nc) (.slice (some ⟨ob, oo, none⟩) i oc) b.nx cv (rs ++ mks mkT m) (cnF b.ins j) T' rv vs wq))
              case atStart => exact ⟨0, _, T, by unfold Hid; omega, rfl, rfl, by have q := unhide hH; exact hide (by simpa [mks] using q)⟩
              case round =>
                clear hH
                obtain ⟨m, cv, T', hm, rfl, rfl, hH⟩ := hrel
                by_cases hmt : m < 16
                · have j0 : (0 : Int) ≤ (m : Int) := by omega
                  have j1 : (m : Int) < 16 := by omega
                  have HROW := hide (unhide hH).ow
                  have HLB : Hid ((rs ++ mks mkT m).length ≤ 1099511627776) := by rw [List.length_append, mks_length, unhide hrs]; unfold Hid; omega
                  go_wp2_with (first | (at_builtin; refine appT rfl _ _ rfl _ (rs ++ mks mkT m) rfl ((unhide HROW).keep (fun g hg => Below.heap_alloc _ _ _ ((unhide HROW).lt g hg))) ⟨wr.heap.size, 0, none⟩ 1 (mkT m) rfl (new_cells _ _ _) rfl rfl (unhide HLB) ?_))
                  intro v5 w5 hr hg hat
                  have H5 := hide ((unhide hH).out (box1n _ _) (fun s' hs' => by
                    have h1 := (List.getElem?_eq_some_iff.1 hs').1
                    rw [List.length_append, unhide hrs, unhide hL] at h1
                    omega) (fun k hk => (mkT_bl hk).elim) hr (by simp) hg (by simpa using hat))
                  rw [List.append_assoc, ← mks_succ] at H5
                  clear hr hg hat HROW HLB
                  go_wp2_with fail
                  go_roundg (gk - 1)
                  case measure => have := unhide hm; omega
                  case rel => exact ⟨m + 1, v5, _, by have := unhide hm; unfold Hid; omega, rfl, by go_num, H5⟩
                · have hm16 : m = 16 := by have := unhide hm; omega
                  subst hm16
                  have how := (unhide hH).ow
                  rw [List.length_append, mks_length, unhide hrs] at how
                  obtain ⟨gb, go, gc, eo, hg1, hg2, _⟩ := how.full (by omega)
                  subst eo
                  unfold maxLen at hg2
                  obtain ⟨z3, z4, z5, z6, z7, zf, zl⟩ := (unhide hH).hs.cell
                  have zf6 := zf 6
                  have HROW := hide ((unhide hH).hs.row 5 (by omega) (by omega))
                  have HLB : Hid ((vs 5).length ≤ 1099511627776) := by have h1 := (unhide hH).cn 5 (by omega) (by omega); simp [cnF] at h1; rw [h1]; unfold Hid; omega
                  have n0' : (0 : Int) ≤ (j : Int) := by omega
                  have n1' : (j : Int) ≤ (gc : Int) := by omega
                  have hszz := (unhide hH).sz
                  clear zf z3 z4 z5 z7 how
                  go_wp2_with (first | (at_builtin; refine appVIn rfl _ _ rfl _ (vs 5) rfl ((unhide HROW).keep (fun g hg => Below.heap_alloc _ _ _ ((unhide HROW).lt g hg))) ⟨wr.heap.size, 0, none⟩ 1 (.slice (some ⟨gb, go, none⟩) (j + 16) gc) rfl (new_cells _ _ _) rfl (unhide HLB) ?_))
                  intro v' w2 hr hg hat
                  obtain ⟨va', vc', ev, _, _⟩ := hr.shape
                  subst ev
                  have hp2 := prow (unhide hH).hs (t := 5) (by omega) (by omega) _ w2 hg
                  have z6' : w2.cell? ⟨p, 6, none⟩ = some (rv 5) := (World.cell?_of_block hp2).trans z6
                  have zf6' : w2.frozen? ⟨p, 6, none⟩ = false := (World.frozen?_of_block hp2).trans zf6
                  have zl' : p < w2.heap.size := Nat.lt_of_lt_of_le zl (Nat.le_trans (by simp) hg.size)
                  have f1 : Fr (fun k => (rv 5).ownBlock = some k ∨ k = p) wr (w2.setCell ⟨p, 6, none⟩ (.slice va' ((vs 5).length + 1) vc')) := by
                    have g1 : Fr (fun k => (rv 5).ownBlock = some k ∨ k = p) wr w2 := ((Fr.of_below (S := fun k => (rv 5).ownBlock = some k ∨ k = p) (box1n wr _))).trans ((Fr.refl _ _).grown hg (fun k e => .inr (.inl e)))
                    exact g1.setCell ⟨p, 6, none⟩ (.inr (.inr rfl)) _
                  have ht3 := (unhide hH).t3
                  have ht4 := (unhide hH).t4
                  have htp := (unhide hH).hs.tp
                  have htg := (unhide hH).hs.tag 5 (by omega) (by omega)
                  have hb3 := (f1.block w.heap.size (by omega) (fun e => by
                    rcases e with e | e
                    · have := htg _ e; omega
                    · rw [← e] at htp; omega)).trans (unhide hH).b3
                  have hb4 := (f1.block (w.heap.size + 1) (by omega) (fun e => by
                    rcases e with e | e
                    · have := htg _ e; omega
                    · rw [← e] at htp; omega)).trans (unhide hH).b4
                  have HDN := hide (fun w' f4 => (unhide hH).done (w' := w') (by rw [unhide hrs, unhide hL]) (by rw [unhide hrs]) (box1n wr _) hr rfl hg (by simpa using hat) (by simp [cnF]; rw [← unhide hL, List.take_length]) (by simp [cnF]; exact (unhide hL).symm) (by simp [cnF]) (by simp [cnF]) f4)
                  obtain ⟨W3, hW3⟩ : ∃ W3, Hid (w2.setCell ⟨p, 6, none⟩ (.slice va' ((vs 5).length + 1) vc') = W3) := ⟨_, hide rfl⟩
                  rw [unhide hW3] at hb3 hb4 HDN
                  rw [unhide hL] at HDN
                  obtain ⟨c1, c2, c3⟩ := blk_cells hb3
                  have y0 := c1 0
                  have y1 := c1 1
                  have y2 := c1 2
                  simp at y0 y1 y2
                  obtain ⟨d1, d2, d3⟩ := blk_cells hb4
                  have v0 := d1 0
                  have v1 := d1 1
                  have v2 := d1 2
                  have vf0 := d2 0
                  have vf1 := d2 1
                  have vf2 := d2 2
                  simp at v0 v1 v2
                  have hW3' := unhide hW3
                  have hobn : (i : Int) ≤ (oc : Int) := by omega
                  clear hr hg hat hp2 HROW HLB hH z6 zf6 f1 c1 c2 d1 d2 htg ht3 ht4 htp hb3
                  go_wp2_with fail
                  clear hW3' hW3 z6' zf6' zl' zl
                  have HSD : Hid (W3.drew.cell? ⟨w.heap.size, 0, none⟩ = some (.int .i64 b.pc) ∧ W3.drew.cell? ⟨w.heap.size, 1, none⟩ = some (.slice ia j ic) ∧ W3.drew.cell? ⟨w.heap.size, 2, none⟩ = some (.slice na i nc)) := ⟨y0, y1, y2⟩
                  obtain ⟨V, hV⟩ : ∃ V, Hid (W3.drew = V) := ⟨_, hide rfl⟩
                  have HSV := HSD
                  rw [unhide hV] at HSV
                  have hV4 : V.heap[w.heap.size + 1]? = some (.cells #[.int .i64 0, .slice none 0 0, .slice none 0 0] 47) := by rw [← unhide hV]; exact hb4
                  obtain ⟨q1, q2⟩ := box_three hV4 (.int .i64 b.pc) (.slice (some ⟨gb, go, none⟩) j gc) (.slice (some ⟨ob, oo, none⟩) i oc)
                  obtain ⟨VF, hVF⟩ : ∃ VF, Hid (((V.setCell ⟨w.heap.size + 1, 0, none⟩ (.int .i64 b.pc)).setCell ⟨w.heap.size + 1, 1, none⟩ (.slice (some ⟨gb, go, none⟩) j gc)).setCell ⟨w.heap.size + 1, 2, none⟩ (.slice (some ⟨ob, oo, none⟩) i oc) = VF) := ⟨_, hide rfl⟩
                  rw [unhide hVF] at q1 q2
                  have HFF := hide q2
                  have hVs : w.heap.size < V.heap.size := by rw [← unhide hV]; exact c3
                  have HSF : Hid (VF.cell? ⟨w.heap.size, 0, none⟩ = some (.int .i64 b.pc) ∧ VF.cell? ⟨w.heap.size, 1, none⟩ = some (.slice ia j ic) ∧ VF.cell? ⟨w.heap.size, 2, none⟩ = some (.slice na i nc)) := ⟨(q2.cell (a := ⟨w.heap.size, 0, none⟩) hVs (by show ¬ w.heap.size = _; omega)).trans (unhide HSV).1, (q2.cell (a := ⟨w.heap.size, 1, none⟩) hVs (by show ¬ w.heap.size = _; omega)).trans (unhide HSV).2.1, (q2.cell (a := ⟨w.heap.size, 2, none⟩) hVs (by show ¬ w.heap.size = _; omega)).trans (unhide HSV).2.2⟩
                  obtain ⟨r1, r2, r3⟩ := blk_cells q1
                  have m0 := r1 0
                  have m1 := r1 1
                  have m2 := r1 2
                  simp at m0 m1 m2
                  clear q1 q2 r1 r2 hV4 hVs hb4
                  have HFV : Hid (Fr (fun _ => False) W3 V) := by rw [← unhide hV]; exact (Fr.refl _ W3).drew
                  have v0' : V.cell? ⟨w.heap.size + 1, 0, none⟩ = some (.int .i64 0) := by rw [← unhide hV]; exact v0
                  have v1' : V.cell? ⟨w.heap.size + 1, 1, none⟩ = some (.slice none 0 0) := by rw [← unhide hV]; exact v1
                  have v2' : V.cell? ⟨w.heap.size + 1, 2, none⟩ = some (.slice none 0 0) := by rw [← unhide hV]; exact v2
                  have vf0' : V.frozen? ⟨w.heap.size + 1, 0, none⟩ = false := by rw [← unhide hV]; exact vf0
                  have vf1' : V.frozen? ⟨w.heap.size + 1, 1, none⟩ = false := by rw [← unhide hV]; exact vf1
                  have vf2' : V.frozen? ⟨w.heap.size + 1, 2, none⟩ = false := by rw [← unhide hV]; exact vf2
                  have d3' : w.heap.size + 1 < V.heap.size := by rw [← unhide hV]; exact d3
                  clear y0 y1 y2 v0 v1 v2 vf0 vf1 vf2 d3 c3
                  refine wp_region_held_drew (S := (fun W => W.cell? ⟨w.heap.size, 0, none⟩ = some (.int .i64 b.pc) ∧ W.cell? ⟨w.heap.size, 1, none⟩ = some (.slice ia j ic) ∧ W.cell? ⟨w.heap.size, 2, none⟩ = some (.slice na i nc))) (by kernel_rfl) (unhide HSD) (fun hHeld => ?_)
                  clear hHeld
                  rw [unhide hV]
                  refine wpAnyH_take (i := 0) (oi := _) (v := .pointer (some ⟨w.heap.size, 0, none⟩)) rfl (by kernel_rfl) (by kernel_rfl) (by kernel_rfl) (fun _ _ _ h => h) (Or.inl ⟨by rfl, (by intro w' hSw; obtain ⟨s0, s1, s2⟩ := hSw; go_simp)⟩) (unhide HSV) ?_
                  go_simp
                  refine wpAnyH_take (i := 1) (oi := _) (v := .int .i64 b.pc) rfl (by kernel_rfl) (by kernel_rfl) (by kernel_rfl) (fun _ _ _ h => h) (Or.inl ⟨by rfl, (by intro w' hSw; obtain ⟨s0, s1, s2⟩ := hSw; go_simp)⟩) (unhide HSV) ?_
                  go_simp
                  refine wpAnyH_take (i := 2) (oi := _) (v := .slice (some ⟨gb, go, none⟩) (j + 16) gc) rfl (by kernel_rfl) (by kernel_rfl) (by kernel_rfl) (fun _ _ _ h => h) (Or.inl ⟨by rfl, (by intro w' hSw; obtain ⟨s0, s1, s2⟩ := hSw; go_simp)⟩) (unhide HSV) ?_
                  go_simp
                  refine wpAnyH_take (i := 3) (oi := _) (v := .pointer (some ⟨w.heap.size, 1, none⟩)) rfl (by kernel_rfl) (by kernel_rfl) (by kernel_rfl) (fun _ _ _ h => h) (Or.inl ⟨by rfl, (by intro w' hSw; obtain ⟨s0, s1, s2⟩ := hSw; go_simp)⟩) (unhide HSV) ?_
                  go_simp
                  refine wpAnyH_take (i := 4) (oi := _) (v := .slice ia j ic) rfl (by kernel_rfl) (by kernel_rfl) (by kernel_rfl) (fun _ _ _ h => h) (Or.inl ⟨by rfl, (by intro w' hSw; obtain ⟨s0, s1, s2⟩ := hSw; go_simp)⟩) (unhide HSV) ?_
                  go_simp
                  refine wpAnyH_take (i := 5) (oi := _) (v := .int .i64 (j : Int)) rfl (by kernel_rfl) (by kernel_rfl) (by kernel_rfl) (fun _ _ _ h => h) (Or.inl ⟨by rfl, (by intro w' hSw; obtain ⟨s0, s1, s2⟩ := hSw; go_simp)⟩) (unhide HSV) ?_
                  go_simp
                  refine wpAnyH_take (i := 6) (oi := _) (v := .slice (some ⟨gb, go, none⟩) j gc) rfl (by kernel_rfl) (by kernel_rfl) (by kernel_rfl) (fun _ _ _ h => h) (Or.inl ⟨by rfl, (by intro w' hSw; obtain ⟨s0, s1, s2⟩ := hSw; go_simp)⟩) (unhide HSV) ?_
                  go_simp
                  refine wpAnyH_take (i := 7) (oi := _) (v := .slice (some ⟨ob, oo, none⟩) (i + 16) oc) rfl (by kernel_rfl) (by kernel_rfl) (by kernel_rfl) (fun _ _ _ h => h) (Or.inl ⟨by rfl, (by intro w' hSw; obtain ⟨s0, s1, s2⟩ := hSw; go_simp)⟩) (unhide HSV) ?_
                  go_simp
                  refine wpAnyH_take (i := 8) (oi := _) (v := .pointer (some ⟨w.heap.size, 2, none⟩)) rfl (by kernel_rfl) (by kernel_rfl) (by kernel_rfl) (fun _ _ _ h => h) (Or.inl ⟨by rfl, (by intro w' hSw; obtain ⟨s0, s1, s2⟩ := hSw; go_simp)⟩) (unhide HSV) ?_
                  go_simp
                  refine wpAnyH_take (i := 9) (oi := _) (v := .slice na i nc) rfl (by kernel_rfl) (by kernel_rfl) (by kernel_rfl) (fun _ _ _ h => h) (Or.inl ⟨by rfl, (by intro w' hSw; obtain ⟨s0, s1, s2⟩ := hSw; go_simp)⟩) (unhide HSV) ?_
                  go_simp
                  refine wpAnyH_take (i := 10) (oi := _) (v := .int .i64 (i : Int)) rfl (by kernel_rfl) (by kernel_rfl) (by kernel_rfl) (fun _ _ _ h => h) (Or.inl ⟨by rfl, (by intro w' hSw; obtain ⟨s0, s1, s2⟩ := hSw; go_simp)⟩) (unhide HSV) ?_
                  go_simp
                  refine wpAnyH_take (i := 11) (oi := _) (v := .slice (some ⟨ob, oo, none⟩) i oc) rfl (by kernel_rfl) (by kernel_rfl) (by kernel_rfl) (fun _ _ _ h => h) (Or.inl ⟨by rfl, (by intro w' hSw; obtain ⟨s0, s1, s2⟩ := hSw; go_simp)⟩) (unhide HSV) ?_
                  go_simp
                  refine wpAnyH_take (i := 12) (oi := _) (v := .agg #[.int .i64 b.pc, .slice (some ⟨gb, go, none⟩) j gc, .slice (some ⟨ob, oo, none⟩) i oc]) rfl (by kernel_rfl) (by kernel_rfl) (by kernel_rfl) (fun _ _ _ h => h) (Or.inl ⟨by rfl, (by intro w' hSw; obtain ⟨s0, s1, s2⟩ := hSw; go_simp)⟩) (unhide HSV) ?_
                  go_simp
                  refine wpAnyH_ready (rs := [13]) (by kernel_rfl) (by simp) ?_
                  refine AllReadyH.cons (o := _) rfl (fun K hK => ?_) AllReadyH.nil
                  go_simp
                  rw [unhide hVF]
                  refine hK.out _ _ (unhide HSF) (fun _ => ?_)
                  clear hK K
                  go_simp
                  refine wpAnyH_done (by kernel_rfl) ?_ _
                  go_wp2_with fail
                  refine bodyPost_ret (v := .agg #[.int .i64 b.pc, .slice (some ⟨gb, go, none⟩) j gc, .slice (some ⟨ob, oo, none⟩) i oc]) ?_ rfl ?_
                  · rw [results_cell_one rfl]
                    go_simp
                  · exact ⟨⟨b.pc, .slice (some ⟨gb, go, none⟩) j gc, .slice (some ⟨ob, oo, none⟩) i oc⟩, rfl, unhide HDN VF (((unhide HFV).mono (fun _ _ e => e.elim)).trans (unhide HFF))⟩

set_option linter.unusedVariables false
set_option linter.unusedSimpArgs false
theorem BksV.at {D : Nat → Prop} {w : World} {l : List Bk} {v : Value} (h : BksV D w l v) {i : Nat} {x : Bk} (hx : l[i]? = some x) :
    ∃ b off cap ia ic na nc, v = .slice (some ⟨b, off, none⟩) l.length cap ∧ b < w.heap.size ∧ D b ∧ BkP D w x ⟨x.pc, .slice ia x.ins.length ic, .slice na x.nx.length nc⟩ ∧ x.ins.length ≤ ic ∧ ic ≤ maxLen ∧ x.nx.length ≤ nc ∧ nc ≤ maxLen ∧
      ∀ W : World, W.heap[b]? = w.heap[b]? → W.cell? ⟨b, off + i * 3, none⟩ = some (.int .i64 x.pc) ∧ W.cell? ⟨b, off + i * 3 + 1, none⟩ = some (.slice ia x.ins.length ic) ∧ W.cell? ⟨b, off + i * 3 + 2, none⟩ = some (.slice na x.nx.length nc) := by
  obtain ⟨b, off, cap, r, e, hb, hD, ⟨h1, h2, h3⟩, hc⟩ := NV.at zBk h hx
  obtain ⟨ia, ic, es, hs1, hs2⟩ := NV.shape h2
  obtain ⟨na, nc, es2, hs3, hs4⟩ := h3.1.shape
  obtain ⟨r1, r2, r3⟩ := r
  dsimp only at h1 h2 h3 es es2
  subst h1 es es2
  refine ⟨b, off, cap, ia, ic, na, nc, e, hb, hD, ⟨rfl, h2, h3⟩, hs1, hs2, hs3, hs4, fun W hW => ?_⟩
  exact ⟨(World.cell?_of_block (a := ⟨b, off + i * 3, none⟩) hW).trans (hc 0 _ rfl), (World.cell?_of_block (a := ⟨b, off + i * 3 + 1, none⟩) hW).trans (hc 1 _ rfl), (World.cell?_of_block (a := ⟨b, off + i * 3 + 2, none⟩) hW).trans (hc 2 _ rfl)⟩
def bkW (l : List Bk) : Nat := (l.map (fun b => inW b.ins)).sum
def bkI (l : List Bk) : Nat := (l.map (fun b => b.ins.length)).sum
theorem bkW_push {l : List Bk} {i : Nat} {x : Bk} (h : l[i]? = some x) : bkW (l.take (i + 1)) = bkW (l.take i) + inW x.ins := by
  rw [take_push h]; simp [bkW]
theorem bkI_push {l : List Bk} {i : Nat} {x : Bk} (h : l[i]? = some x) : bkI (l.take (i + 1)) = bkI (l.take i) + x.ins.length := by
  rw [take_push h]; simp [bkI]
theorem bkW_le (l : List Bk) (i : Nat) : bkW (l.take i) ≤ bkW l := by
  have h : ∀ a c : List Bk, bkW (a ++ c) = bkW a + bkW c := fun a c => by simp [bkW]
  have := h (l.take i) (l.drop i)
  rw [List.take_append_drop] at this
  omega
theorem bkI_le (l : List Bk) (i : Nat) : bkI (l.take i) ≤ bkI l := by
  have h : ∀ a c : List Bk, bkI (a ++ c) = bkI a + bkI c := fun a c => by simp [bkI]
  have := h (l.take i) (l.drop i)
  rw [List.take_append_drop] at this
  omega
theorem PB.bkP {b : Nat} {w : World} {u : Bk} {t : TB} (h : PB b w u t) : BkP (fun k => blB t k) w u t.1 := by
  refine ⟨h.pc, ⟨t.2.map Prod.fst, by rw [List.length_map]; exact h.ow.len, ?_, fun i x r hx hr => ?_⟩, Rd.of_ro h.nx (fun k hk => .inr (.inr hk))⟩
  · rw [← flt_T]; exact Rd.of_ro h.ow.row (fun k hk => .inl hk)
  · rw [List.getElem?_map] at hr
    cases hx2 : t.2[i]? with
    | none => rw [hx2] at hr; cases hr
    | some y =>
      rw [hx2] at hr
      cases hr
      exact InP.mv _ _ (fun _ => False) _ _ _ _ (h.ow.el i x y hx hx2).inP (Fr.refl _ _) (fun k _ hk => ⟨fun q => q, .inr (.inl ⟨y, List.mem_of_getElem? hx2, hk⟩)⟩)
theorem PB.mono {b b' : Nat} {w : World} {u : Bk} {t : TB} (h : PB b w u t) (hb : b' ≤ b) : PB b' w u t :=
  ⟨h.pc, h.ow.mono (fun k _ hk => Nat.lt_of_le_of_lt hb hk), h.nx, fun k hk => ⟨Nat.lt_of_le_of_lt hb (h.nb k hk).1, (h.nb k hk).2⟩⟩
/-- Blocks of one's own, all apart. -/
structure XP (T : Nat → Nat) (B : Nat) (bl : List Bk) (w : World) (X : List TB) : Prop where
  el : ∀ (j : Nat) (b : Bk) (x : TB), bl[j]? = some b → X[j]? = some x → PB B w b x
  bt : ∀ (x : TB) (k : Nat), x ∈ X → blB x k → T k = 0 ∧ B < k ∧ k < w.heap.size
  ap : ∀ (i j : Nat) (x y : TB) (k : Nat), i ≠ j → X[i]? = some x → X[j]? = some y → blB x k → ¬ blB y k
theorem XP.mv {T T' : Nat → Nat} {B : Nat} {bl : List Bk} {w w' : World} {X : List TB} {S : Nat → Prop} (h : XP T B bl w X) (f : Fr S w w') (hS : ∀ k, k < w.heap.size → T k = 0 → B < k → ¬ S k ∧ T' k = 0) : XP T' B bl w' X :=
  ⟨fun j b x hb hx => stayB B S w w' b x (h.el j b x hb hx) f (fun k hk => by have h3 := h.bt x k (List.mem_of_getElem? hx) hk; exact (hS k h3.2.2 h3.1 h3.2.1).1),
    fun x k hx hk => by have h3 := h.bt x k hx hk; exact ⟨(hS k h3.2.2 h3.1 h3.2.1).2, h3.2.1, Nat.lt_of_lt_of_le h3.2.2 f.size⟩, h.ap⟩
theorem XP.push {T : Nat → Nat} {B : Nat} {bl : List Bk} {w : World} {X : List TB} {x : TB} (h : XP T B bl w X) (hp : ∀ b, bl[X.length]? = some b → PB B w b x) (hx : ∀ k, blB x k → T k = 0 ∧ B < k ∧ k < w.heap.size ∧ ∀ y ∈ X, ¬ blB y k) : XP T B bl w (X ++ [x]) := by
  refine ⟨fun j b y hb hy => ?_, fun y k hy hk => ?_, fun i j y z k hij hy hz hk => ?_⟩
  · rcases mem_push hy with ⟨q1, q2⟩ | ⟨q1, rfl⟩
    · exact h.el j b y hb q2
    · subst q1; exact hp b hb
  · rcases List.mem_append.1 hy with q | q
    · exact h.bt y k q hk
    · rw [List.mem_singleton] at q
      subst q
      exact ⟨(hx k hk).1, (hx k hk).2.1, (hx k hk).2.2.1⟩
  · rcases mem_push hy with ⟨q1, q2⟩ | ⟨q1, rfl⟩ <;> rcases mem_push hz with ⟨r1, r2⟩ | ⟨r1, rfl⟩
    · exact h.ap i j y z k hij q2 r2 hk
    · exact fun e => (hx k e).2.2.2 y (List.mem_of_getElem? q2) hk
    · exact (hx k hk).2.2.2 z (List.mem_of_getElem? r2)
    · omega
structure HC (w : World) (fn regs : Int) (blv : Value) (cf cr : Int) (cb : Value) (bl : List Bk) (i : Nat) (rs pd : List BkR) (T : Nat → Nat) (rv : Nat → Value) (vs : Nat → List Value) (wr : World) : Prop where
  hs : HS T wr (w.heap.size + 1) cf cr cb rv vs rs
  tk : ∀ k, k < w.heap.size → T k = 0
  bw : Below w.heap.size w wr
  cb : wr.heap[w.heap.size]? = some (.cells #[.int .i64 fn, .int .i64 regs, blv] 24)
  t9 : T w.heap.size = 9
  xs : ∃ X : List TB, X.map Prod.fst = rs ++ pd ∧ XP T w.heap.size bl wr X
  c2 : (vs 2).length = bkW (bl.take i)
  c3 : (vs 3).length = bkI (bl.take i)
  c4 : (vs 4).length = i
  c5 : (vs 5).length = i
section
variable {T : Nat → Nat} {w wr w' : World} {fn regs cf cr : Int} {cb blv : Value} {rv : Nat → Value} {vs : Nat → List Value} {bl : List Bk} {i : Nat} {rs pd : List BkR}
def tag0 (w : World) : Nat → Nat := fun k => if k < w.heap.size then 0 else if k = w.heap.size then 9 else 1
theorem HC.start (w : World) (fn regs : Int) (blv : Value) (bl : List Bk) : HC w fn regs blv 0 0 (.slice none 0 0) bl 0 [] [] (tag0 w) (fun _ => .slice none 0 0) (fun _ => []) ((w.alloc (.cells #[.int .i64 fn, .int .i64 regs, blv] 24)).alloc (.cells #[.int .i64 0, .int .i64 0, .slice none 0 0, .slice none 0 0, .slice none 0 0, .slice none 0 0, .slice none 0 0, .slice none 0 0] 34)) := by
  refine ⟨⟨?_, ?_, fun t _ _ => by simpa [flt] using Ro.nil _ 1, by simpa [flt] using Ro.nil _ 3, (fun t _ _ k e => by cases e), (fun t _ _ v h => by simp at h)⟩, ?_, bl_two w _ _, ?_, ?_, ⟨[], rfl, ⟨(fun j b x _ h => by simp at h), (fun x k h => by simp at h), (fun i j x y k _ h => by simp at h)⟩⟩, by simp [bkW], by simp [bkI], rfl, rfl⟩
  · have := heap_alloc_new (w.alloc (.cells #[.int .i64 fn, .int .i64 regs, blv] 24)) (.cells #[.int .i64 0, .int .i64 0, .slice none 0 0, .slice none 0 0, .slice none 0 0, .slice none 0 0, .slice none 0 0, .slice none 0 0] 34)
    simpa only [World.size_alloc] using this
  · simp [tag0]
  · intro k hk; simp [tag0, hk]
  · rw [Below.heap_alloc _ _ _ (by simp)]; exact heap_alloc_new w _
  · simp [tag0]
theorem HC.sz (h : HC w fn regs blv cf cr cb bl i rs pd T rv vs wr) : w.heap.size + 1 < wr.heap.size := h.hs.lt
theorem HC.below (h : HC w fn regs blv cf cr cb bl i rs pd T rv vs wr) (f : Below wr.heap.size wr w') (t : Nat) : HC w fn regs blv cf cr cb bl i rs pd (tl T wr.heap.size t) rv vs w' := by
  have hsz := h.sz
  exact ⟨h.hs.below f t, fun k hk => by rw [tl_lt T t (by omega)]; exact h.tk k hk, bl_past h.bw f, (f.block _ (by omega)).trans h.cb, by rw [tl_lt T t (by omega)]; exact h.t9, (by obtain ⟨X, hX, hP⟩ := h.xs; exact ⟨X, hX, hP.mv (Fr.of_below (S := fun _ => False) f) (fun k hk e _ => ⟨fun q => q, by rw [tl_lt T t hk]; exact e⟩)⟩), h.c2, h.c3, h.c4, h.c5⟩
theorem Fr.bel {S : Nat → Prop} {a b c : World} (h : Below a.heap.size a b) (f : Fr S b c) (hS : ∀ k, k < a.heap.size → ¬ S k) : Below a.heap.size a c := h.trans (f.below h.size hS)
theorem HC.block (h : HC w fn regs blv cf cr cb bl i rs [] T rv vs wr) {b : Bk} {r : BkR} (hi : rs.length = i) (hb : bl[i]? = some b) (hh : HBk T wr (w.heap.size + 1) cf cr cb rv vs rs b r w') :
    ∃ T' rv' vs', HC w fn regs blv cf cr cb bl (i + 1) rs [r] T' rv' vs' w' ∧ BkP (fun k => T' k = 0) w' b r ∧ rv' 6 = rv 6 := by
  obtain ⟨T', rv', vs', ts, g1, g2, g3, g4, g4b, g5, g6, g7, g8, g9⟩ := hh
  have hsz := h.sz
  have h9 := h.t9
  refine ⟨T', rv', vs', ⟨g1, fun k hk => by rw [g2 k (by omega)]; exact h.tk k hk, Fr.bel h.bw g3 (fun k hk e => by have := h.tk k hk; omega), (g3.block _ (by omega) (by omega)).trans h.cb, by rw [g2 _ (by omega)]; exact h9, ?_, ?_, ?_, ?_, ?_⟩, BkP.mv _ _ _ _ _ _ _ g4.bkP (Fr.refl (fun _ => False) w') (fun k hk e => ⟨fun q => q, g4b k e⟩), g9⟩
  · obtain ⟨X, hX, hP⟩ := h.xs
    rw [List.append_nil] at hX
    have hXl : X.length = i := by rw [← hi, ← hX, List.length_map]
    have h2 := hP.mv (T' := T') g3 (fun k hk e _ => ⟨by omega, by rw [g2 k hk]; exact e⟩)
    refine ⟨X ++ [(r, ts)], by rw [List.map_append, hX]; rfl, h2.push (fun b' hb' => ?_) (fun k hk => ?_)⟩
    · rw [hXl, hb] at hb'
      cases hb'
      exact g4.mono (by omega)
    · have h1 := g4.gt hk
      exact ⟨g4b k hk, by omega, h1.2, fun y hy e => by have := (hP.bt y k hy e).2.2; omega⟩
  · rw [g5, h.c2, bkW_push hb]
  · rw [g6, h.c3, bkI_push hb]
  · rw [g7, h.c4]
  · rw [g8, h.c5]
theorem HC.pushB {u : BkR} (h : HC w fn regs blv cf cr cb bl i rs [u] T rv vs wr) {w1 w2 : World} {v' : Value} (hb : Below wr.heap.size wr w1) {m : Nat}
    (hr : Ro w2 3 v' m (flt enBk rs ++ enBk u)) (hm : m = rs.length + 1) (hg : w1.grownBy w2 (rv 6).ownBlock) (hat : v'.ownBlock = (rv 6).ownBlock ∨ v'.ownBlock = some w1.heap.size) :
    HC w fn regs blv cf cr cb bl i (rs ++ [u]) [] (tl T wr.heap.size 6) (upd rv 6 v') vs (w2.setCell ⟨w.heap.size + 1, 7, none⟩ v') ∧ Fr (fun k => T k = 6 ∨ T k = 1) wr (w2.setCell ⟨w.heap.size + 1, 7, none⟩ v') := by
  obtain ⟨q1, q2⟩ := h.hs.pushB (u := u) hb hr hm hg hat
  have hsz := h.sz
  have h9 := h.t9
  refine ⟨⟨q1, fun k hk => by rw [tl_lt T 6 (by omega)]; exact h.tk k hk, Fr.bel h.bw q2 (fun k hk e => by have := h.tk k hk; omega), (q2.block _ (by omega) (by omega)).trans h.cb, by rw [tl_lt T 6 (by omega)]; exact h9, ?_, h.c2, h.c3, h.c4, h.c5⟩, q2⟩
  obtain ⟨X, hX, hP⟩ := h.xs
  exact ⟨X, by rw [hX]; simp, hP.mv q2 (fun k hk e _ => ⟨by omega, by rw [tl_lt T 6 hk]; exact e⟩)⟩
/-- A mark is about to be laid behind the blocks. -/
theorem HC.mark (h : HC w fn regs blv cf cr cb bl i rs [] T rv vs wr) (hl : bl.length ≤ rs.length) (m : Nat) : HC w fn regs blv cf cr cb bl i rs [mkBk m] T rv vs wr := by
  obtain ⟨a1, a2, a3, a4, a5, a6, a7, a8, a9, a10⟩ := h
  obtain ⟨X, hX, hP⟩ := a6
  rw [List.append_nil] at hX
  refine ⟨a1, a2, a3, a4, a5, ⟨X ++ [(mkBk m, [])], by rw [List.map_append, hX]; rfl, hP.push (fun b hb => ?_) (fun k hk => ?_)⟩, a7, a8, a9, a10⟩
  · have h1 := (List.getElem?_eq_some_iff.1 hb).1
    have h2 : X.length = rs.length := by rw [← hX, List.length_map]
    omega
  · rcases hk with q | ⟨y, hy, _⟩ | q
    · cases q
    · cases hy
    · cases q
/-- The code itself is laid into the box. -/
theorem HC.code (h : HC w fn regs blv cf cr cb bl i rs pd T rv vs wr) (x y : Int) (z : Value) :
    HC w fn regs blv x y z bl i rs pd T rv vs (((wr.setCell ⟨w.heap.size + 1, 0, none⟩ (.int .i64 x)).setCell ⟨w.heap.size + 1, 1, none⟩ (.int .i64 y)).setCell ⟨w.heap.size + 1, 2, none⟩ z) ∧ Fr (fun k => k = w.heap.size + 1) wr (((wr.setCell ⟨w.heap.size + 1, 0, none⟩ (.int .i64 x)).setCell ⟨w.heap.size + 1, 1, none⟩ (.int .i64 y)).setCell ⟨w.heap.size + 1, 2, none⟩ z) := by
  have f : Fr (fun k => k = w.heap.size + 1) wr (((wr.setCell ⟨w.heap.size + 1, 0, none⟩ (.int .i64 x)).setCell ⟨w.heap.size + 1, 1, none⟩ (.int .i64 y)).setCell ⟨w.heap.size + 1, 2, none⟩ z) := (((Fr.refl (fun k => k = w.heap.size + 1) wr).setCell ⟨w.heap.size + 1, 0, none⟩ (.inr rfl) _).setCell ⟨w.heap.size + 1, 1, none⟩ (.inr rfl) _).setCell ⟨w.heap.size + 1, 2, none⟩ (.inr rfl) _
  have hsz := h.sz
  have htp := h.hs.tp
  have h9 := h.t9
  have nr : ∀ t, 2 ≤ t → t ≤ 6 → ∀ k, (rv t).ownBlock = some k → ¬ k = w.heap.size + 1 := fun t h2 h6 k hk e => by have := h.hs.tag t h2 h6 k hk; subst e; omega
  refine ⟨⟨⟨?_, htp, fun t h2 h5 => (h.hs.row t h2 h5).fr f (nr t h2 (by omega)), h.hs.brow.fr f (nr 6 (by omega) (by omega)), h.hs.tag, fun t h2 h5 v hv => (h.hs.el t h2 h5 v hv).mv f (fun k hk e => ⟨fun q => by have q' : k = w.heap.size + 1 := q; subst q'; omega, e⟩)⟩, h.tk, Fr.bel h.bw f (fun k hk e => by have e' : k = w.heap.size + 1 := e; omega), (f.block _ (by omega) (by omega)).trans h.cb, h9, (by obtain ⟨X, hX, hP⟩ := h.xs; exact ⟨X, hX, hP.mv f (fun k hk e _ => ⟨fun q => by have q' : k = w.heap.size + 1 := q; subst q'; omega, e⟩)⟩), h.c2, h.c3, h.c4, h.c5⟩, f⟩
  rw [setCell_block (setCell_block (setCell_block h.hs.box (.int .i64 x)) (.int .i64 y)) z]
  rfl
end
end Go.Proofs.YtpbdmbmafjkinaaDoor
