/-
  Shapes handed in.
-/
import Derived.Test.YtpbdmbmafjkinaaDoorRgL
namespace Go.Proofs.YtpbdmbmafjkinaaDoor
open Go.RowKit
set_option linter.unusedVariables false
set_option linter.unusedSimpArgs false
theorem HS.cell {T : Nat → Nat} {w : World} {p : Nat} {cf cr : Int} {cb : Value} {rv : Nat → Value} {vs : Nat → List Value} {bs : List BkR} (h : HS T w p cf cr cb rv vs bs) :
    w.cell? ⟨p, 3, none⟩ = some (rv 2) ∧ w.cell? ⟨p, 4, none⟩ = some (rv 3) ∧ w.cell? ⟨p, 5, none⟩ = some (rv 4) ∧ w.cell? ⟨p, 6, none⟩ = some (rv 5) ∧ w.cell? ⟨p, 7, none⟩ = some (rv 6) ∧ (∀ j, w.frozen? ⟨p, j, none⟩ = false) ∧ p < w.heap.size := by
  obtain ⟨h1, h2, h3⟩ := blk_cells h.box
  exact ⟨h1 3, h1 4, h1 5, h1 6, h1 7, h2, h3⟩
theorem ShsV.at {D : Nat → Prop} {w : World} {l : List Sh} {v : Value} (h : ShsV D w l v) {i : Nat} {s : Sh} (hs : l[i]? = some s) :
    ∃ b off cap sa sc, v = .slice (some ⟨b, off, none⟩) l.length cap ∧ b < w.heap.size ∧ D b ∧ OpV D w s.sl (.slice sa s.sl.length sc) ∧ s.sl.length ≤ sc ∧ sc ≤ maxLen ∧ ∀ W : World, W.heap[b]? = w.heap[b]? → W.cell? ⟨b, off + i * 3, none⟩ = some (.int .i64 s.fn) ∧ W.cell? ⟨b, off + i * 3 + 1, none⟩ = some (.int .i64 s.pc) ∧ W.cell? ⟨b, off + i * 3 + 2, none⟩ = some (.slice sa s.sl.length sc) := by
  obtain ⟨b, off, cap, r, e, hb, hD, ⟨hp1, hp2, hp3⟩, hc⟩ := NV.at zSh h hs
  obtain ⟨sa, sc, es, hs1, hs2⟩ := hp3.1.shape
  obtain ⟨rf, rp, rw'⟩ := r
  subst hp1 hp2 es
  exact ⟨b, off, cap, sa, sc, e, hb, hD, hp3, hs1, hs2, fun W hW => ⟨(World.cell?_of_block (a := ⟨b, off + i * 3, none⟩) hW).trans (hc 0 _ rfl), (World.cell?_of_block (a := ⟨b, off + i * 3 + 1, none⟩) hW).trans (hc 1 _ rfl), (World.cell?_of_block (a := ⟨b, off + i * 3 + 2, none⟩) hW).trans (hc 2 _ rfl)⟩⟩
/-- A new list that is done. -/
theorem MR.of_gx {R : Type} {en : R → List Value} {sz : Nat} {mk : Nat → R} {w w' : World} {l : List R} {v : Value} {D : Nat → Prop} (h : Gx w sz en (l ++ mks mk 16) v w') (hD : ∀ k, w.heap.size ≤ k → D k) : MR en sz mk D w' v := by
  obtain ⟨h1, h2, h3⟩ := h
  rw [List.length_append, mks_length] at h1
  obtain ⟨g, off, cap, e, _⟩ := h1.full (by omega)
  exact ⟨l, g, off, cap, e, hD g (h3 g (by rw [e]; rfl)), h1⟩
set_option maxRecDepth 100000 in
set_option maxHeartbeats 6400000 in
theorem handShapes_any {T0 : Nat → Nat} {w : World} {p : Nat} {cf cr : Int} {cb : Value} {rv0 : Nat → Value} {vs0 : Nat → List Value} {bs : List BkR} {l : List Sh} {lv : Value} (hh : HS T0 w p cf cr cb rv0 vs0 bs) (hl : ShsV (fun k => T0 k = 0) w l lv)
    (hN : l.length ≤ 1073741824) (hM : ∀ s ∈ l, s.sl.length ≤ 1073741824) (h2 : (vs0 2).length + l.length ≤ 1073741824) (h3 : (vs0 3).length ≤ 1073741824) :
    Calls Tryd.prog 41 #[.pointer (some ⟨p, 0, none⟩), lv] w fun e w' => ∃ v, e = .returned v ∧ HSh T0 w p cf cr cb rv0 vs0 bs l v w' := by
  obtain ⟨a, acap, rfl, ha1, ha2⟩ := NV.shape hl
  have HA := hide hl
  have HM := hide hM
  unfold maxLen at ha2
  clear hl hM
  obtain ⟨L, hL⟩ : ∃ L, Hid (l.length = L) := ⟨_, hide rfl⟩
  rw [unhide hL] at ha1 hN h2 ⊢
  have HX := hide (HL.start hh l)
  clear hh
  go_enter Tryd.func41, Tryd.ntmps41
  go_wp2_with fail
  go_loopg [5, 6] L (fun gg t5 t6 wr => ∃ (i : Nat) (ov : Value) (rs : List ShR) (T : Nat → Nat) (rv : Nat → Value) (vs : Nat → List Value), Hid (i + gg = L) ∧ t5 = ov ∧ t6 = .int .i64 (i : Int) ∧ Hid (rs.length = i) ∧ Hid (HL T0 w p cf cr cb rv0 vs0 bs l i ov rs T rv vs wr))
  case atStart => exact ⟨0, _, _, _, _, _, by unfold Hid; omega, rfl, rfl, hide rfl, HX⟩
  case round =>
    clear HX
    obtain ⟨i, ov, rs, T, rv, vs, hi, hov, rfl, hrs, hH⟩ := hrel
    subst hov
    by_cases hlt : i < L
    · obtain ⟨s, hs⟩ : ∃ s, l[i]? = some s := ⟨_, List.getElem?_eq_getElem (by rw [unhide hL]; exact hlt)⟩
      obtain ⟨b, off, cap, sa, sc, e, hb, hD, hp3, hs1, hs2, hcl⟩ := (unhide HA).at hs
      cases e
      have i0 : (0 : Int) ≤ (i : Int) := by omega
      have i1 : (i : Int) < (L : Int) := by omega
      have HS1 := hide hs
      have HCL := hide hcl
      have h0b : T0 b = 0 := hD
      have hsl := unhide HM s (List.mem_of_getElem? hs)
      have HB0 := hide ((unhide hH).fr.block b hb (by show ¬ (1 ≤ T0 b ∧ T0 b ≤ 3); omega))
      have HOLD : Hid (∀ q ∈ rs, ∀ k, q.v.ownBlock = some k → k < wr.heap.size) := fun q hq k hk => ((unhide hH).sb q k hq hk).2.2
      obtain ⟨k0, k1, k2⟩ := unhide HCL wr (unhide HB0)
      have hbr := Nat.lt_of_lt_of_le hb (unhide hH).fr.size
      have HBX := hide (box1n wr (.cells #[.int .i64 s.fn, .int .i64 s.pc, .slice sa s.sl.length sc] 73))
      have HCALL := hide (markedOpnds_any (D := fun k => T0 k = 0) (w := wr.alloc (.cells #[.int .i64 s.fn, .int .i64 s.pc, .slice sa s.sl.length sc] 73)) (av := .slice sa s.sl.length sc) (l := s.sl) (OpV.mv _ _ _ _ _ _ _ hp3 (((unhide hH).fr).comp (Fr.of_below (S := fun _ => False) (unhide HBX)) (fun _ _ e => e.elim)) (fun k hk e => ⟨by show ¬ (1 ≤ T0 k ∧ T0 k ≤ 3); omega, e⟩)) hsl)
      have HXB := hide (heap_alloc_new wr (.cells #[.int .i64 s.fn, .int .i64 s.pc, .slice sa s.sl.length sc] 73))
      have H1 := hide ((unhide hH).below (unhide HBX) 8)
      unfold maxLen at hs2
      clear hcl hs hp3 hD
      go_wp2_with fail
      refine (unhide HCALL).mono ?_
      rintro e w1 ⟨sv, rfl, G1⟩
      clear HCALL k0 k1 k2 hbr
      obtain ⟨nb, no, nc, esv, hn1, hn2, hn3, hn4⟩ := G1.1.full (by rw [List.length_append, mks_length]; omega)
      rw [List.length_append, mks_length] at esv hn1
      subst esv
      unfold maxLen at hn2
      have H2 := hide ((unhide H1).below G1.2.1 0)
      have HXB2 := hide ((G1.2.1.block wr.heap.size (by simp)).trans (unhide HXB))
      have HBA := hide (bl_past (unhide HBX) G1.2.1)
      have HB1 := hide (((unhide HBA).block b (Nat.lt_of_lt_of_le hb (unhide hH).fr.size)).trans (unhide HB0))
      have HQ : Hid (QT 2 (fun k => tl (tl T wr.heap.size 8) (wr.alloc (.cells #[.int .i64 s.fn, .int .i64 s.pc, .slice sa s.sl.length sc] 73)).heap.size 0 k = 0) w1 (.slice (some ⟨nb, no, none⟩) (s.sl.length + 16) nc)) := MR.of_gx G1 (fun k hk => tl_ge _ _ hk)
      have HRO := hide G1.1
      have hnb := G1.2.2 nb rfl
      obtain ⟨T2, hT2⟩ : ∃ T2, Hid (tl (tl T wr.heap.size 8) (wr.alloc (.cells #[.int .i64 s.fn, .int .i64 s.pc, .slice sa s.sl.length sc] 73)).heap.size 0 = T2) := ⟨_, hide rfl⟩
      have hTx : T2 wr.heap.size = 8 := by rw [← unhide hT2, tl_lt _ _ (by simp), tl_ge _ _ (Nat.le_refl _)]
      have hTn : T2 nb = 0 := by rw [← unhide hT2, tl_ge _ _ hnb]
      rw [unhide hT2] at H2 HQ
      have hxs : wr.heap.size < w1.heap.size := by have := G1.2.1.size; simp at this; omega
      obtain ⟨z3, z4, z5, z6, z7, zf, zl⟩ := (unhide H2).hs.cell
      have zf3 := zf 3
      have HROW := hide ((unhide H2).hs.row 2 (by omega) (by omega))
      have HLB : Hid ((vs 2).length ≤ 1099511627776) := by have := (unhide H2).c2; unfold Hid; omega
      have HPR : Hid (∀ u w2, (w1.alloc (.cells #[u] 48)).grownBy w2 (rv 2).ownBlock → w2.heap[p]? = w1.heap[p]?) := fun u w2 hg => by
        have f1 : Fr (fun k => (rv 2).ownBlock = some k) w1 w2 := ((Fr.of_below (S := fun k => (rv 2).ownBlock = some k) (box1n w1 _))).trans ((Fr.refl _ _).grown hg (fun k e => .inr e))
        exact f1.block p zl (fun e => by have := (unhide H2).hs.tag 2 (by omega) (by omega) p e; have := (unhide H2).hs.tp; omega)
      clear zf z4 z5 z6 z7 G1 hn4 HXB
      go_wp2_with (first | (at_builtin; refine appVO rfl _ _ rfl _ (vs 2) rfl ((unhide HROW).keep (fun g hg => Below.heap_alloc _ _ _ ((unhide HROW).lt g hg))) ⟨w1.heap.size, 0, none⟩ 1 (.slice (some ⟨nb, no, none⟩) (s.sl.length + 16) nc) rfl (new_cells _ _ _) rfl (unhide HLB) ?_))
      intro v' w2 hr hg hat
      obtain ⟨va, vc, ev, _, _⟩ := hr.shape
      subst ev
      have hp2 := unhide HPR _ w2 hg
      have z3' : w2.cell? ⟨p, 3, none⟩ = some (rv 2) := (World.cell?_of_block hp2).trans z3
      have zf3' : w2.frozen? ⟨p, 3, none⟩ = false := (World.frozen?_of_block hp2).trans zf3
      have zl' : p < w2.heap.size := Nat.lt_of_lt_of_le zl (Nat.le_trans (by simp) hg.size)
      obtain ⟨q1, q2⟩ := (unhide H2).pushO (box1n w1 _) (unhide HQ) hr rfl hg (by simpa using hat)
      have H3 := hide q1
      have hxl : wr.heap.size < (w2.setCell ⟨p, 3, none⟩ (.slice va ((vs 2).length + 1) vc)).heap.size := Nat.lt_of_lt_of_le hxs q2.size
      have hx3 := (q2.block wr.heap.size hxs (by show ¬ (T2 _ = 2 ∨ T2 _ = 1); omega)).trans (unhide HXB2)
      have hb1l : b < w1.heap.size := Nat.lt_of_lt_of_le hb (Nat.le_trans (unhide hH).fr.size (unhide HBA).size)
      have hb3 := (q2.block b hb1l (by show ¬ (T2 _ = 2 ∨ T2 _ = 1); have := (unhide H2).tk b hb; omega)).trans (unhide HB1)
      have HR3 : Hid (Ro (w2.setCell ⟨p, 3, none⟩ (.slice va ((vs 2).length + 1) vc)) 2 (.slice (some ⟨nb, no, none⟩) (s.sl.length + 16) nc) (s.sl.length + 16) (flt enO (s.sl ++ mks mkO 16))) := by
        have := unhide HRO
        rw [List.length_append, mks_length] at this
        exact this.fr q2 (fun k hk e => by cases hk; have e' : T2 nb = 2 ∨ T2 nb = 1 := e; omega)
      clear hr hg hat HPR z3 zf3 hp2 q1 q2 HROW HLB HRO HXB2 HB1 HB0 HBX
      obtain ⟨W3, hW3⟩ : ∃ W3, Hid (w2.setCell ⟨p, 3, none⟩ (.slice va ((vs 2).length + 1) vc) = W3) := ⟨_, hide rfl⟩
      rw [unhide hW3] at H3 hxl hx3 hb3 HR3
      obtain ⟨k0, k1, k2⟩ := unhide HCL W3 hb3
      obtain ⟨x1, x2, x3⟩ := blk_cells hx3
      have y0 := x1 0
      have y1 := x1 1
      have y2 := x1 2
      have yf := x2 2
      simp at y0 y1 y2
      clear x1 x2 k0 k1 HCL
      have hbr3 : b < W3.heap.size := by have h1 := (unhide H3).fr.size; omega
      have n0 : (0 : Int) ≤ (s.sl.length : Int) := by omega
      have n1 : (s.sl.length : Int) ≤ (nc : Int) := by omega
      have hW3' := unhide hW3
      have hws : w.heap.size ≤ wr.heap.size := (unhide hH).fr.size
      have hnb' : w.heap.size ≤ nb := by simp at hnb; omega
      have fx : Fr (fun k => k = wr.heap.size) W3 (W3.setCell ⟨wr.heap.size, 2, none⟩ (.slice (some ⟨nb, no, none⟩) s.sl.length nc)) := Fr.setCell (S := fun k => k = wr.heap.size) (Fr.refl _ W3) ⟨wr.heap.size, 2, none⟩ (.inr rfl) _
      have HH4 := hide ((unhide H3).other fx hws (by rw [tl_lt _ _ hxs]; exact hTx))
      have HSP : Hid (ShE (W3.setCell ⟨wr.heap.size, 2, none⟩ (.slice (some ⟨nb, no, none⟩) s.sl.length nc)) s ⟨s.fn, s.pc, .slice (some ⟨nb, no, none⟩) s.sl.length nc⟩) := by
        refine ⟨rfl, rfl, ?_⟩
        have q := (unhide HR3).upto rfl (k := s.sl.length) (by omega)
        rw [flt_take zO, List.take_left] at q
        exact q.fr fx (fun k hk e => by
          have e' : k = wr.heap.size := e
          have hk' : nb = k := by cases hk; rfl
          simp at hnb; omega)
      have HNB : Hid (tl T2 w1.heap.size 2 nb = 0 ∧ w.heap.size ≤ nb ∧ nb < (W3.setCell ⟨wr.heap.size, 2, none⟩ (.slice (some ⟨nb, no, none⟩) s.sl.length nc)).heap.size ∧ wr.heap.size ≤ nb) := ⟨by rw [tl_lt _ _ hn3]; exact hTn, hnb', Nat.lt_of_lt_of_le ((unhide HR3).lt nb rfl) fx.size, by simp at hnb; omega⟩
      have HROW := hide (unhide HH4).ow
      have HNC : Hid (∀ j u, (enSh ⟨s.fn, s.pc, .slice (some ⟨nb, no, none⟩) s.sl.length nc⟩)[j]? = some u → ((W3.setCell ⟨wr.heap.size, 2, none⟩ (.slice (some ⟨nb, no, none⟩) s.sl.length nc)).alloc (.cells #[.int .i64 s.fn, .int .i64 s.pc, .slice (some ⟨nb, no, none⟩) s.sl.length nc] 73)).cell? ((⟨W3.heap.size, 0, none⟩ : Addr).add j) = some u) := by
        have q := new_cells (W3.setCell ⟨wr.heap.size, 2, none⟩ (.slice (some ⟨nb, no, none⟩) s.sl.length nc)) #[.int .i64 s.fn, .int .i64 s.pc, .slice (some ⟨nb, no, none⟩) s.sl.length nc] 73
        rw [show (W3.setCell ⟨wr.heap.size, 2, none⟩ (.slice (some ⟨nb, no, none⟩) s.sl.length nc)).heap.size = W3.heap.size by simp [World.setCell]] at q
        exact q
      have HLB : Hid (rs.length ≤ 1099511627776) := by rw [unhide hrs]; unfold Hid; omega
      clear hH H1 H2 H3 HR3 HQ fx HA hnb hnb' HBA hb3 hx3 hTx hTn
      go_wp2_with (first | (at_builtin; refine appSh rfl _ _ rfl _ rs rfl ((unhide HROW).keep (fun g hg => Below.heap_alloc _ _ _ ((unhide HROW).lt g hg))) ⟨W3.heap.size, 0, none⟩ 1 ⟨s.fn, s.pc, .slice (some ⟨nb, no, none⟩) s.sl.length nc⟩ rfl (unhide HNC) rfl (unhide HLB) ?_))
      intro v5 w5 hr hg hat
      have H5 := hide ((unhide HH4).out (box1n _ _) (fun s' hs' => by
        rw [unhide hrs, unhide HS1] at hs'
        cases hs'
        exact unhide HSP) (fun k hk => by
        have hk' : nb = k := by cases hk; rfl
        subst hk'
        obtain ⟨h1, h2, h3, h4⟩ := unhide HNB
        exact ⟨h1, h2, h3, fun q hq e => by have := unhide HOLD q hq nb e; omega⟩) hr rfl hg (by simpa using hat))
      have HRL : Hid ((rs ++ [(⟨s.fn, s.pc, .slice (some ⟨nb, no, none⟩) s.sl.length nc⟩ : ShR)]).length = i + 1) := by rw [List.length_append, unhide hrs]; rfl
      clear hr hg hat HH4 HROW HSP HNB HOLD HNC HLB hW3' hW3 y0 y1 y2 yf x3 k2 hxl hbr3
      go_wp2_with fail
      go_roundg (gk - 1)
      case measure => have := unhide hi; omega
      case rel => exact ⟨i + 1, v5, _, _, _, _, by have := unhide hi; unfold Hid; omega, rfl, by go_num, HRL, H5⟩
    · have hiL : i = L := by have := unhide hi; omega
      subst hiL
      clear HA
      go_wp2_with fail
      go_loopg [5, 9] 16 (fun g t5 t6 wq => ∃ (j : Nat) (cv : Value) (T' : Nat → Nat), Hid (j + g = 16) ∧ t5 = cv ∧ t6 = .int .i64 (j : Int) ∧ Hid (HL T0 w p cf cr cb rv0 vs0 bs l l.length cv (rs ++ mks mkSh j) T' rv vs wq))
      case atStart => exact ⟨0, _, T, by unfold Hid; omega, rfl, rfl, by have q := unhide hH; rw [← unhide hL] at q; exact hide (by simpa [mks] using q)⟩
      case round =>
        clear hH
        obtain ⟨j, cv, T', hj, rfl, rfl, hH⟩ := hrel
        by_cases hjt : j < 16
        · have j0 : (0 : Int) ≤ (j : Int) := by omega
          have j1 : (j : Int) < 16 := by omega
          have HROW := hide (unhide hH).ow
          have HLB : Hid ((rs ++ mks mkSh j).length ≤ 1099511627776) := by rw [List.length_append, mks_length, unhide hrs]; unfold Hid; omega
          go_wp2_with (first | (at_builtin; refine appSh rfl _ _ rfl _ (rs ++ mks mkSh j) rfl ((unhide HROW).keep (fun g hg => Below.heap_alloc _ _ _ ((unhide HROW).lt g hg))) ⟨wr.heap.size, 0, none⟩ 1 (mkSh j) rfl (new_cells _ _ _) rfl (unhide HLB) ?_))
          intro v5 w5 hr hg hat
          have H5 := hide ((unhide hH).out (box1n _ _) (fun s' hs' => by
            have h1 := (List.getElem?_eq_some_iff.1 hs').1
            rw [List.length_append, unhide hrs, unhide hL] at h1
            omega) (fun k hk => by cases hk) hr (by simp) hg (by simpa using hat))
          rw [List.append_assoc, ← mks_succ] at H5
          clear hr hg hat HROW HLB
          go_wp2_with fail
          go_roundg (gk - 1)
          case measure => have := unhide hj; omega
          case rel => exact ⟨j + 1, v5, _, by have := unhide hj; unfold Hid; omega, rfl, by go_num, H5⟩
        · have hj16 : j = 16 := by have := unhide hj; omega
          subst hj16
          have how := (unhide hH).ow
          rw [List.length_append, mks_length, unhide hrs] at how
          obtain ⟨ob, oo, oc, eo, ho1, ho2, _⟩ := how.full (by omega)
          subst eo
          unfold maxLen at ho2
          obtain ⟨z3, z4, z5, z6, z7, zf, zl⟩ := (unhide hH).hs.cell
          have zf4 := zf 4
          have HROW := hide ((unhide hH).hs.row 3 (by omega) (by omega))
          have HLB : Hid ((vs 3).length ≤ 1099511627776) := by have := (unhide hH).c3 3 (by omega); rw [this.1]; unfold Hid; omega
          have HPR : Hid (∀ u w2, (wr.alloc (.cells #[u] 49)).grownBy w2 (rv 3).ownBlock → w2.heap[p]? = wr.heap[p]?) := fun u w2 hg => by
            have f1 : Fr (fun k => (rv 3).ownBlock = some k) wr w2 := ((Fr.of_below (S := fun k => (rv 3).ownBlock = some k) (box1n wr _))).trans ((Fr.refl _ _).grown hg (fun k e => .inr e))
            exact f1.block p zl (fun e => by have := (unhide hH).hs.tag 3 (by omega) (by omega) p e; have := (unhide hH).hs.tp; omega)
          have n0 : (0 : Int) ≤ (i : Int) := by omega
          have n1 : (i : Int) ≤ (oc : Int) := by omega
          clear zf z3 z5 z6 z7 how
          go_wp2_with (first | (at_builtin; refine appVSh rfl _ _ rfl _ (vs 3) rfl ((unhide HROW).keep (fun g hg => Below.heap_alloc _ _ _ ((unhide HROW).lt g hg))) ⟨wr.heap.size, 0, none⟩ 1 (.slice (some ⟨ob, oo, none⟩) (i + 16) oc) rfl (new_cells _ _ _) rfl (unhide HLB) ?_))
          intro v' w2 hr hg hat
          obtain ⟨va, vc, ev, _, _⟩ := hr.shape
          subst ev
          have hp2 := unhide HPR _ w2 hg
          have z4' : w2.cell? ⟨p, 4, none⟩ = some (rv 3) := (World.cell?_of_block hp2).trans z4
          have zf4' : w2.frozen? ⟨p, 4, none⟩ = false := (World.frozen?_of_block hp2).trans zf4
          have zl' : p < w2.heap.size := Nat.lt_of_lt_of_le zl (Nat.le_trans (by simp) hg.size)
          have HD := hide ((unhide hH).done (by rw [unhide hrs, unhide hL]) (by rw [unhide hrs]) (box1n wr _) hr rfl hg (by simpa using hat))
          rw [unhide hL] at HD
          clear hr hg hat HPR hp2 HROW HLB hH z4 zf4
          go_wp2_with fail
          go_ret
          exact ⟨_, rfl, unhide HD⟩
end Go.Proofs.YtpbdmbmafjkinaaDoor
