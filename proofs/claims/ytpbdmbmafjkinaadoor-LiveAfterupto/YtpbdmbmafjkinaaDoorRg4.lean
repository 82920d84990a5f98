/-
  Code handed in.
-/
import Derived.Test.YtpbdmbmafjkinaaDoorRgC
namespace Go.Proofs.YtpbdmbmafjkinaaDoor
open Go.RowKit
set_option linter.unusedVariables false
set_option linter.unusedSimpArgs false
/-- Code that was handed in: the box, its lists, what the code's blocks are. -/
structure HD (w : World) (p : Nat) (fn regs : Int) (bl : List Bk) (T : Nat → Nat) (rv : Nat → Value) (vs : Nat → List Value) (rs : List BkR) (g o c : Nat) (w' : World) : Prop where
  hs : HS T w' p fn regs (.slice (some ⟨g, o, none⟩) bl.length c) rv vs (rs ++ mks mkBk 16)
  r6 : rv 6 = .slice (some ⟨g, o, none⟩) (bl.length + 16) c
  ln : rs.length = bl.length
  el : ∀ (j : Nat) (b : Bk) (r : BkR), bl[j]? = some b → rs[j]? = some r → BkP (fun k => T k = 0) w' b r
  bw : Below w.heap.size w w'
  c4 : (vs 4).length = bl.length
  c5 : (vs 5).length = bl.length
  xs : ∃ X : List TB, X.map Prod.fst = rs ++ mks mkBk 16 ∧ XP T w.heap.size bl w' X
  tk : ∀ k, k < w.heap.size → T k = 0
theorem infoBk : ∃ i, Tryd.prog.info? 47 = some i ∧ i.zero = some (.agg #[.int .i64 0, .slice none 0 0, .slice none 0 0]) ∧ i.size = 3 ∧ i.bytes = 56 := info_parts infBk
set_option maxRecDepth 100000 in
set_option maxHeartbeats 12800000 in
theorem handCode_any {w : World} {fn regs : Int} {blv : Value} {bl : List Bk} (hl : BksV (fun k => k < w.heap.size) w bl blv)
    (hN : bl.length ≤ 1073741824) (hM : ∀ b ∈ bl, b.ins.length ≤ 1073741824 ∧ b.nx.length ≤ 1073741824 ∧ ∀ x ∈ b.ins, x.args.length ≤ 1073741824 ∧ x.ex.length ≤ 1073741824 ∧ ∀ s ∈ x.ex, s.sl.length ≤ 1073741824) (h2 : bkW bl ≤ 1073741824) (h3 : bkI bl ≤ 1073741824) :
    Calls Tryd.prog 8 #[.agg #[.int .i64 fn, .int .i64 regs, blv]] w fun e w' => ∃ T rv vs rs g o c, e = .returned (.pointer (some ⟨w.heap.size + 1, 0, none⟩)) ∧ HD w (w.heap.size + 1) fn regs bl T rv vs rs g o c w' := by
  obtain ⟨a, acap, rfl, ha1, ha2⟩ := NV.shape hl
  have HA := hide hl
  have HM := hide hM
  unfold maxLen at ha2
  clear hl hM
  obtain ⟨L, hL⟩ : ∃ L, Hid (bl.length = L) := ⟨_, hide rfl⟩
  rw [unhide hL] at ha1 hN HA ⊢
  have HX := hide (HC.start w fn regs (.slice a L acap) bl)
  go_enter Tryd.func8, Tryd.ntmps8
  go_wp2_with fail
  go_loopg [4] L (fun gg t4 wr => ∃ (i : Nat) (rs : List BkR) (T : Nat → Nat) (rv : Nat → Value) (vs : Nat → List Value), Hid (i + gg = L) ∧ t4 = .int .i64 (i : Int) ∧ Hid (rs.length = i) ∧ Hid (HC w fn regs (.slice a L acap) 0 0 (.slice none 0 0) bl i rs [] T rv vs wr))
  case atStart => exact ⟨0, _, _, _, _, by unfold Hid; omega, rfl, hide rfl, HX⟩
  case round =>
    clear HX
    obtain ⟨i, rs, T, rv, vs, hi, rfl, hrs, hH⟩ := hrel
    obtain ⟨c1, c2, c3⟩ := blk_cells (unhide hH).cb
    have y0 := c1 0
    have y1 := c1 1
    have y2 := c1 2
    simp at y0 y1 y2
    clear c1 c2
    by_cases hlt : i < L
    · obtain ⟨b, hb⟩ : ∃ b, bl[i]? = some b := ⟨_, List.getElem?_eq_getElem (by rw [unhide hL]; exact hlt)⟩
      have HA' := HA
      rw [← unhide hL] at HA'
      obtain ⟨eb, off, cap, ia, ic, na, nc, e, heb, _, hbp, hs1, hs2, hs3, hs4, hcl⟩ := (unhide HA').at hb
      rw [unhide hL] at e
      cases e
      have i0 : (0 : Int) ≤ (i : Int) := by omega
      have i1 : (i : Int) < (L : Int) := by omega
      have hbr := Nat.lt_of_lt_of_le heb (unhide hH).bw.size
      obtain ⟨k0, k1, k2⟩ := hcl wr ((unhide hH).bw.block eb heb)
      have HB1 := hide hb
      obtain ⟨hm1, hm2, hm3⟩ := unhide HM b (List.mem_of_getElem? hb)
      have HCALL := hide (handBlock_any (unhide hH).hs (BkP.mv _ (fun k => T k = 0) _ _ _ _ _ hbp (Fr.of_below (S := fun k => ¬ k < w.heap.size) ((unhide hH).bw)) (fun k hk e => ⟨fun q => q e, (unhide hH).tk k hk⟩)) hm1 hm2 hm3 (by
        have q1 := (unhide hH).c2
        have q2 := bkW_le bl (i + 1)
        rw [bkW_push hb] at q2
        omega) (by
        have q1 := (unhide hH).c3
        have q2 := bkI_le bl (i + 1)
        rw [bkI_push hb] at q2
        omega) (by have q1 := (unhide hH).c4; omega) (by have q1 := (unhide hH).c5; omega))
      unfold bkV at HCALL
      dsimp only at HCALL
      unfold maxLen at hs2 hs4
      clear hcl hb hbp HA' hm3
      go_wp2_with fail
      refine (unhide HCALL).mono ?_
      rintro e w1 ⟨⟨rp, ri, rn⟩, rfl, hBk⟩
      clear HCALL k0 k1 k2 hbr y0 y1 y2 c3
      obtain ⟨T1, rv1, vs1, g1, g2, g3⟩ := (unhide hH).block (unhide hrs) (unhide HB1) hBk
      obtain ⟨ra, rc, er1, _, _⟩ := NV.shape g2.2.1
      obtain ⟨sa, sc, er2, _, _⟩ := g2.2.2.1.shape
      dsimp only at er1 er2
      subst er1 er2
      obtain ⟨rn, hrn⟩ : ∃ rn, Hid (b.ins.length = rn) := ⟨_, hide rfl⟩
      obtain ⟨sn, hsn⟩ : ∃ sn, Hid (b.nx.length = sn) := ⟨_, hide rfl⟩
      rw [unhide hrn, unhide hsn] at g1 g2
      rw [unhide hrn, unhide hsn]
      have HG := hide (g1.below (((box1n w1 (.cells #[.int .i64 rp, .slice ra rn rc, .slice sa sn sc] 47))).trans ((bl_drew _).mono (by simp))) 8)
      have hxb := heap_alloc_new w1 (.cells #[.int .i64 rp, .slice ra rn rc, .slice sa sn sc] 47)
      have hxb' : (w1.alloc (.cells #[.int .i64 rp, .slice ra rn rc, .slice sa sn sc] 47)).drew.heap[w1.heap.size]? = some (.cells #[.int .i64 rp, .slice ra rn rc, .slice sa sn sc] 47) := hxb
      obtain ⟨x1, x2, x3⟩ := blk_cells hxb'
      have HSD : Hid ((w1.alloc (.cells #[.int .i64 rp, .slice ra rn rc, .slice sa sn sc] 47)).drew.cell? ⟨w1.heap.size, 0, none⟩ = some (.int .i64 rp) ∧ (w1.alloc (.cells #[.int .i64 rp, .slice ra rn rc, .slice sa sn sc] 47)).drew.cell? ⟨w1.heap.size, 1, none⟩ = some (.slice ra rn rc) ∧ (w1.alloc (.cells #[.int .i64 rp, .slice ra rn rc, .slice sa sn sc] 47)).drew.cell? ⟨w1.heap.size, 2, none⟩ = some (.slice sa sn sc)) := ⟨x1 0, x1 1, x1 2⟩
      obtain ⟨V, hV⟩ : ∃ V, Hid ((w1.alloc (.cells #[.int .i64 rp, .slice ra rn rc, .slice sa sn sc] 47)).drew = V) := ⟨_, hide rfl⟩
      have HSV := HSD
      rw [unhide hV] at HSV HG x3
      have hTx : tl T1 w1.heap.size 8 w1.heap.size = 8 := tl_ge _ _ (Nat.le_refl _)
      obtain ⟨T2, hT2⟩ : ∃ T2, Hid (tl T1 w1.heap.size 8 = T2) := ⟨_, hide rfl⟩
      rw [unhide hT2] at HG hTx
      obtain ⟨Wa, hWa⟩ : ∃ Wa, Hid (V.alloc (.cells #[.int .i64 rp, .slice ra rn rc, .slice sa sn sc] 47) = Wa) := ⟨_, hide rfl⟩
      have HBa : Hid (Below V.heap.size V Wa) := by rw [← unhide hWa]; exact box1n V _
      have hvl : Wa.heap.size = V.heap.size + 1 := by rw [← unhide hWa]; simp
      obtain ⟨i0r, hi0r, hz0r, hz1r, hz2r⟩ := infoBk
      have hgow : Ro Wa 3 (rv1 6) rs.length (flt enBk rs) := (unhide HG).hs.brow.fr (Fr.of_below (S := fun _ => False) (unhide HBa)) (fun _ _ e => e)
      obtain ⟨v', w3, hrun, hr3, hg3, hat3⟩ := Ro.app (P := Tryd.prog) 22 22 47 i0r _ 3 56 Tryd.underlying22 hi0r hz0r hz1r hz2r rfl (by decide) hgow ⟨V.heap.size, 0, none⟩ 1 1 (enBk ⟨rp, .slice ra rn rc, .slice sa sn sc⟩) rfl (by rw [← unhide hWa]; exact new_cells _ _ _) (by intro u hu; simp only [enBk, List.mem_cons, List.not_mem_nil, or_false] at hu; rcases hu with rfl | rfl | rfl <;> rfl) (by omega) (by unfold maxLen; rw [unhide hrs]; omega) (by rw [unhide hrs]; omega)
      obtain ⟨va, vc, ev, _, _⟩ := hr3.shape
      subst ev
      have HRUN := hide hrun
      obtain ⟨q1, q2⟩ := (unhide HG).pushB (unhide HBa) hr3 rfl hg3 hat3
      obtain ⟨Z, hZ⟩ : ∃ Z, Hid (w3.setCell ⟨w.heap.size + 1, 7, none⟩ (.slice va (rs.length + 1) vc) = Z) := ⟨_, hide rfl⟩
      rw [unhide hZ] at q1 q2
      have HCN := hide q1
      have HRL : Hid ((rs ++ [(⟨rp, .slice ra rn rc, .slice sa sn sc⟩ : BkR)]).length = i + 1) := by rw [List.length_append, unhide hrs]; rfl
      have f3 : Fr (fun k => (rv1 6).ownBlock = some k) Wa w3 := (Fr.refl _ Wa).grown hg3 (fun k e => .inr e)
      have htg := (unhide HG).hs.tag 6 (by omega) (by omega)
      have htp := (unhide HG).hs.tp
      obtain ⟨z3, z4, z5, z6, z7, zf, zl⟩ := (unhide HG).hs.cell
      have HSa : Hid (Wa.cell? ⟨w1.heap.size, 0, none⟩ = some (.int .i64 rp) ∧ Wa.cell? ⟨w1.heap.size, 1, none⟩ = some (.slice ra rn rc) ∧ Wa.cell? ⟨w1.heap.size, 2, none⟩ = some (.slice sa sn sc)) := ⟨((unhide HBa).cell (p := ⟨w1.heap.size, 0, none⟩) x3).trans (unhide HSV).1, ((unhide HBa).cell (p := ⟨w1.heap.size, 1, none⟩) x3).trans (unhide HSV).2.1, ((unhide HBa).cell (p := ⟨w1.heap.size, 2, none⟩) x3).trans (unhide HSV).2.2⟩
      have hxa : w1.heap.size < Wa.heap.size := by omega
      have nx : ¬ (rv1 6).ownBlock = some w1.heap.size := fun e => by have := htg _ e; omega
      have HSw : Hid (w3.cell? ⟨w1.heap.size, 0, none⟩ = some (.int .i64 rp) ∧ w3.cell? ⟨w1.heap.size, 1, none⟩ = some (.slice ra rn rc) ∧ w3.cell? ⟨w1.heap.size, 2, none⟩ = some (.slice sa sn sc)) := ⟨(f3.cell (a := ⟨w1.heap.size, 0, none⟩) hxa nx).trans (unhide HSa).1, (f3.cell (a := ⟨w1.heap.size, 1, none⟩) hxa nx).trans (unhide HSa).2.1, (f3.cell (a := ⟨w1.heap.size, 2, none⟩) hxa nx).trans (unhide HSa).2.2⟩
      have HSz : Hid (Z.cell? ⟨w1.heap.size, 0, none⟩ = some (.int .i64 rp) ∧ Z.cell? ⟨w1.heap.size, 1, none⟩ = some (.slice ra rn rc) ∧ Z.cell? ⟨w1.heap.size, 2, none⟩ = some (.slice sa sn sc)) := by
        have nz : ¬ (T2 w1.heap.size = 6 ∨ T2 w1.heap.size = 1) := by omega
        exact ⟨(q2.cell (a := ⟨w1.heap.size, 0, none⟩) x3 nz).trans (unhide HSV).1, (q2.cell (a := ⟨w1.heap.size, 1, none⟩) x3 nz).trans (unhide HSV).2.1, (q2.cell (a := ⟨w1.heap.size, 2, none⟩) x3 nz).trans (unhide HSV).2.2⟩
      have ga : Wa.cell? ⟨w.heap.size + 1, 7, none⟩ = some (rv1 6) := ((unhide HBa).cell (p := ⟨w.heap.size + 1, 7, none⟩) zl).trans z7
      have gaz : w.heap.size + 1 < Wa.heap.size := by omega
      have np : ¬ (rv1 6).ownBlock = some (w.heap.size + 1) := fun e => by have := htg _ e; omega
      have hV2 : w3.cell? ⟨w.heap.size + 1, 7, none⟩ = some (rv1 6) := (f3.cell (a := ⟨w.heap.size + 1, 7, none⟩) gaz np).trans ga
      have hV2f : w3.frozen? ⟨w.heap.size + 1, 7, none⟩ = false := (f3.frozen (a := ⟨w.heap.size + 1, 7, none⟩) gaz np).trans ((World.frozen?_of_block ((unhide HBa).block _ zl)).trans (zf 7))
      have hV2z : w.heap.size + 1 < w3.heap.size := Nat.lt_of_lt_of_le gaz f3.size
      clear hrun hr3 hg3 hat3 hgow q1 q2 f3 htg htp z3 z4 z5 z6 zf hi0r hz0r hz1r hz2r HBa hvl x1 x2 hxb hxb' HG nx np hxa hTx g1 g2 g3 hBk HA hH
      dsimp only
      go_wp2_with fail
      refine wp_region_held_drew (S := (fun W => W.cell? ⟨w1.heap.size, 0, none⟩ = some (.int .i64 rp) ∧ W.cell? ⟨w1.heap.size, 1, none⟩ = some (.slice ra rn rc) ∧ W.cell? ⟨w1.heap.size, 2, none⟩ = some (.slice sa sn sc))) (by kernel_rfl) (unhide HSD) (fun hHeld => ?_)
      clear hHeld
      rw [unhide hV]
      refine wpAnyH_take (i := 0) (oi := _) (v := .pointer (some ⟨w.heap.size + 1, 0, none⟩)) rfl (by kernel_rfl) (by kernel_rfl) (by kernel_rfl) (fun _ _ _ h => h) (Or.inl ⟨by rfl, (by intro w' hSw; obtain ⟨s0, s1, s2⟩ := hSw; go_simp)⟩) (unhide HSV) ?_
      go_simp
      refine wpAnyH_take (i := 1) (oi := _) (v := .pointer (some ⟨w.heap.size + 1, 0, none⟩)) rfl (by kernel_rfl) (by kernel_rfl) (by kernel_rfl) (fun _ _ _ h => h) (Or.inl ⟨by rfl, (by intro w' hSw; obtain ⟨s0, s1, s2⟩ := hSw; go_simp)⟩) (unhide HSV) ?_
      go_simp
      refine wpAnyH_take (i := 2) (oi := _) (v := .pointer (some ⟨w.heap.size + 1, 0, none⟩)) rfl (by kernel_rfl) (by kernel_rfl) (by kernel_rfl) (fun _ _ _ h => h) (Or.inl ⟨by rfl, (by intro w' hSw; obtain ⟨s0, s1, s2⟩ := hSw; go_simp)⟩) (unhide HSV) ?_
      go_simp
      refine wpAnyH_take (i := 3) (oi := _) (v := .pointer (some ⟨w.heap.size + 1, 7, none⟩)) rfl (by kernel_rfl) (by kernel_rfl) (by kernel_rfl) (fun _ _ _ h => h) (Or.inl ⟨by rfl, (by intro w' hSw; obtain ⟨s0, s1, s2⟩ := hSw; go_simp)⟩) (unhide HSV) ?_
      go_simp
      refine wpAnyH_take (i := 5) (oi := _) (v := .agg #[.int .i64 rp, .slice ra rn rc, .slice sa sn sc]) rfl (by kernel_rfl) (by kernel_rfl) (by kernel_rfl) (fun _ _ _ h => h) (Or.inl ⟨by rfl, (by intro w' hSw; obtain ⟨s0, s1, s2⟩ := hSw; go_simp)⟩) (unhide HSV) ?_
      go_simp
      refine wpAnyH_ready (rs := [4, 6]) (by kernel_rfl) (by simp) ?_
      refine AllReadyH.cons (o := _) rfl (fun K hK => ?_) (AllReadyH.cons (o := _) rfl (fun K hK => ?_) AllReadyH.nil)
      · go_simp
        refine hK.out _ _ (unhide HSV) (fun _ => ?_)
        clear hK K
        go_simp
        refine wpAnyH_ready (rs := [6]) (by kernel_rfl) (by simp) ?_
        refine AllReadyH.cons (o := _) rfl (fun K hK => ?_) AllReadyH.nil
        go_simp
        rw [unhide hWa]
        refine hK.out _ _ (unhide HSa) (fun _ => ?_)
        clear hK K
        go_simp
        refine wpAnyH_ready (rs := [7]) (by kernel_rfl) (by simp) ?_
        refine AllReadyH.cons (o := _) rfl (fun K hK => ?_) AllReadyH.nil
        refine step_appRun rfl _ _ (by rfl) _ _ _ (by rfl) (by rfl) (unhide HRUN) ?_
        refine hK.out _ _ (unhide HSw) (fun _ => ?_)
        clear hK K
        go_simp
        refine wpAnyH_take (i := 8) (oi := _) (v := .pointer (some ⟨w.heap.size + 1, 0, none⟩)) rfl (by kernel_rfl) (by kernel_rfl) (by kernel_rfl) (fun _ _ _ h => h) (Or.inl ⟨by rfl, (by intro w' hSw; obtain ⟨s0, s1, s2⟩ := hSw; go_simp)⟩) (unhide HSw) ?_
        go_simp
        refine wpAnyH_take (i := 9) (oi := _) (v := .pointer (some ⟨w.heap.size + 1, 7, none⟩)) rfl (by kernel_rfl) (by kernel_rfl) (by kernel_rfl) (fun _ _ _ h => h) (Or.inl ⟨by rfl, (by intro w' hSw; obtain ⟨s0, s1, s2⟩ := hSw; go_simp)⟩) (unhide HSw) ?_
        go_simp
        refine wpAnyH_ready (rs := [10]) (by kernel_rfl) (by simp) ?_
        refine AllReadyH.cons (o := _) rfl (fun K hK => ?_) AllReadyH.nil
        go_simp
        rw [unhide hZ]
        refine hK.out _ _ (unhide HSz) (fun _ => ?_)
        clear hK K
        go_simp
        refine wpAnyH_done (by kernel_rfl) ?_ _
        clear HSV HSD HSa HSw HRUN ga gaz hV2 hV2z hV2f z7 zl HSz
        go_wp2_with fail
        go_roundg (gk - 1)
        case measure => have := unhide hi; omega
        case rel => exact ⟨i + 1, _, _, _, _, by have := unhide hi; unfold Hid; omega, by go_num, HRL, HCN⟩
      · go_simp
        rw [unhide hWa]
        refine hK.out _ _ (unhide HSa) (fun _ => ?_)
        clear hK K
        go_simp
        refine wpAnyH_ready (rs := [4]) (by kernel_rfl) (by simp) ?_
        refine AllReadyH.cons (o := _) rfl (fun K hK => ?_) AllReadyH.nil
        go_simp
        refine hK.out _ _ (unhide HSa) (fun _ => ?_)
        clear hK K
        go_simp
        refine wpAnyH_ready (rs := [7]) (by kernel_rfl) (by simp) ?_
        refine AllReadyH.cons (o := _) rfl (fun K hK => ?_) AllReadyH.nil
        refine step_appRun rfl _ _ (by rfl) _ _ _ (by rfl) (by rfl) (unhide HRUN) ?_
        refine hK.out _ _ (unhide HSw) (fun _ => ?_)
        clear hK K
        go_simp
        refine wpAnyH_take (i := 8) (oi := _) (v := .pointer (some ⟨w.heap.size + 1, 0, none⟩)) rfl (by kernel_rfl) (by kernel_rfl) (by kernel_rfl) (fun _ _ _ h => h) (Or.inl ⟨by rfl, (by intro w' hSw; obtain ⟨s0, s1, s2⟩ := hSw; go_simp)⟩) (unhide HSw) ?_
        go_simp
        refine wpAnyH_take (i := 9) (oi := _) (v := .pointer (some ⟨w.heap.size + 1, 7, none⟩)) rfl (by kernel_rfl) (by kernel_rfl) (by kernel_rfl) (fun _ _ _ h => h) (Or.inl ⟨by rfl, (by intro w' hSw; obtain ⟨s0, s1, s2⟩ := hSw; go_simp)⟩) (unhide HSw) ?_
        go_simp
        refine wpAnyH_ready (rs := [10]) (by kernel_rfl) (by simp) ?_
        refine AllReadyH.cons (o := _) rfl (fun K hK => ?_) AllReadyH.nil
        go_simp
        rw [unhide hZ]
        refine hK.out _ _ (unhide HSz) (fun _ => ?_)
        clear hK K
        go_simp
        refine wpAnyH_done (by kernel_rfl) ?_ _
        clear HSV HSD HSa HSw HRUN ga gaz hV2 hV2z hV2f z7 zl HSz
        go_wp2_with fail
        go_roundg (gk - 1)
        case measure => have := unhide hi; omega
        case rel => exact ⟨i + 1, _, _, _, _, by have := unhide hi; unfold Hid; omega, by go_num, HRL, HCN⟩
    · have hiL : i = L := by have := unhide hi; omega
      subst hiL
      clear HA HM
      go_wp2_with fail
      clear y0 y1 y2 c3
      go_loopg [6] 16 (fun g t6 wq => ∃ (m : Nat) (T' : Nat → Nat) (rv' : Nat → Value), Hid (m + g = 16) ∧ t6 = .int .i64 (m : Int) ∧ Hid (HC w fn regs (.slice a i acap) 0 0 (.slice none 0 0) bl i (rs ++ mks mkBk m) [] T' rv' vs wq))
      case atStart => exact ⟨0, T, rv, by unfold Hid; omega, rfl, by have q := unhide hH; exact hide (by simpa [mks] using q)⟩
      case round =>
        clear hH
        obtain ⟨m, T', rv', hm, rfl, hH⟩ := hrel
        obtain ⟨z3, z4, z5, z6, z7, zf, zl⟩ := (unhide hH).hs.cell
        by_cases hmt : m < 16
        · have j0 : (0 : Int) ≤ (m : Int) := by omega
          have j1 : (m : Int) < 16 := by omega
          have zf7 := zf 7
          have HROW := hide (unhide hH).hs.brow
          have HLB : Hid ((rs ++ mks mkBk m).length ≤ 1099511627776) := by rw [List.length_append, mks_length, unhide hrs]; unfold Hid; omega
          clear zf z3 z4 z5 z6
          go_wp2_with (first | (at_builtin; refine appBk rfl _ _ rfl _ (rs ++ mks mkBk m) rfl ((unhide HROW).keep (fun g hg => Below.heap_alloc _ _ _ ((unhide HROW).lt g hg))) ⟨wr.heap.size, 0, none⟩ 1 (mkBk m) rfl (new_cells _ _ _) rfl rfl (unhide HLB) ?_))
          intro v' w2 hr hg hat
          obtain ⟨va, vc, ev, _, _⟩ := hr.shape
          subst ev
          have hp2 := prow (unhide hH).hs (t := 6) (by omega) (by omega) _ w2 hg
          have z7' : w2.cell? ⟨w.heap.size + 1, 7, none⟩ = some (rv' 6) := (World.cell?_of_block hp2).trans z7
          have zf7' : w2.frozen? ⟨w.heap.size + 1, 7, none⟩ = false := (World.frozen?_of_block hp2).trans zf7
          have zl' : w.heap.size + 1 < w2.heap.size := Nat.lt_of_lt_of_le zl (Nat.le_trans (by simp) hg.size)
          have HP := hide (((unhide hH).mark (by rw [List.length_append, unhide hrs, unhide hL]; omega) m).pushB (box1n wr _) hr (by simp) hg (by simpa using hat)).1
          rw [List.append_assoc, ← mks_succ] at HP
          clear hr hg hat HROW HLB hp2 z7 zf7 zl
          go_wp2_with fail
          go_roundg (gk - 1)
          case measure => have := unhide hm; omega
          case rel => exact ⟨m + 1, _, _, by have := unhide hm; unfold Hid; omega, by go_num, HP⟩
        · have hm16 : m = 16 := by have := unhide hm; omega
          subst hm16
          have how := (unhide hH).hs.brow
          rw [List.length_append, mks_length, unhide hrs] at how
          obtain ⟨gb, go, gc, eo, hg1, hg2, _⟩ := how.full (by omega)
          unfold maxLen at hg2
          obtain ⟨c1, c2, c3⟩ := blk_cells (unhide hH).cb
          obtain ⟨d1, d2, d3⟩ := blk_cells (unhide hH).hs.box
          have HSD : Hid (wr.drew.cell? ⟨w.heap.size, 0, none⟩ = some (.int .i64 fn) ∧ wr.drew.cell? ⟨w.heap.size, 1, none⟩ = some (.int .i64 regs) ∧ wr.drew.cell? ⟨w.heap.size, 2, none⟩ = some (.slice a i acap) ∧ wr.drew.cell? ⟨w.heap.size + 1, 7, none⟩ = some (.slice (some ⟨gb, go, none⟩) (i + 16) gc)) := ⟨c1 0, c1 1, c1 2, by rw [← eo]; exact z7⟩
          have HG := hide ((unhide hH).below (bl_drew wr) 8)
          have e0 : wr.drew.cell? ⟨w.heap.size + 1, 0, none⟩ = some (.int .i64 0) := d1 0
          have e1 : wr.drew.cell? ⟨w.heap.size + 1, 1, none⟩ = some (.int .i64 0) := d1 1
          have e2 : wr.drew.cell? ⟨w.heap.size + 1, 2, none⟩ = some (.slice none 0 0) := d1 2
          have f0 : wr.drew.frozen? ⟨w.heap.size + 1, 0, none⟩ = false := d2 0
          have f1 : wr.drew.frozen? ⟨w.heap.size + 1, 1, none⟩ = false := d2 1
          have f2 : wr.drew.frozen? ⟨w.heap.size + 1, 2, none⟩ = false := d2 2
          have zlv : w.heap.size + 1 < wr.drew.heap.size := zl
          have c3' : w.heap.size < wr.drew.heap.size := c3
          obtain ⟨V, hV⟩ : ∃ V, Hid (wr.drew = V) := ⟨_, hide rfl⟩
          have HSV := HSD
          rw [unhide hV] at HSV HG zlv c3'
          have b0 : V.cell? ⟨w.heap.size + 1, 0, none⟩ = some (.int .i64 0) := by rw [← unhide hV]; exact e0
          have b1 : V.cell? ⟨w.heap.size + 1, 1, none⟩ = some (.int .i64 0) := by rw [← unhide hV]; exact e1
          have b2 : V.cell? ⟨w.heap.size + 1, 2, none⟩ = some (.slice none 0 0) := by rw [← unhide hV]; exact e2
          have bf0 : V.frozen? ⟨w.heap.size + 1, 0, none⟩ = false := by rw [← unhide hV]; exact f0
          have bf1 : V.frozen? ⟨w.heap.size + 1, 1, none⟩ = false := by rw [← unhide hV]; exact f1
          have bf2 : V.frozen? ⟨w.heap.size + 1, 2, none⟩ = false := by rw [← unhide hV]; exact f2
          obtain ⟨q1, q2⟩ := (unhide HG).code fn regs (.slice (some ⟨gb, go, none⟩) i gc)
          obtain ⟨Z, hZ⟩ : ∃ Z, Hid (((V.setCell ⟨w.heap.size + 1, 0, none⟩ (.int .i64 fn)).setCell ⟨w.heap.size + 1, 1, none⟩ (.int .i64 regs)).setCell ⟨w.heap.size + 1, 2, none⟩ (.slice (some ⟨gb, go, none⟩) i gc) = Z) := ⟨_, hide rfl⟩
          rw [unhide hZ] at q1 q2
          have nz : ¬ (w.heap.size = w.heap.size + 1) := by omega
          have HSz : Hid (Z.cell? ⟨w.heap.size, 0, none⟩ = some (.int .i64 fn) ∧ Z.cell? ⟨w.heap.size, 1, none⟩ = some (.int .i64 regs) ∧ Z.cell? ⟨w.heap.size, 2, none⟩ = some (.slice a i acap) ∧ Z.cell? ⟨w.heap.size + 1, 7, none⟩ = some (.slice (some ⟨gb, go, none⟩) (i + 16) gc)) := ⟨(q2.cell (a := ⟨w.heap.size, 0, none⟩) c3' nz).trans (unhide HSV).1, (q2.cell (a := ⟨w.heap.size, 1, none⟩) c3' nz).trans (unhide HSV).2.1, (q2.cell (a := ⟨w.heap.size, 2, none⟩) c3' nz).trans (unhide HSV).2.2.1, by rw [← eo]; exact q1.hs.cell.2.2.2.2.1⟩
          have n0' : (0 : Int) ≤ (i : Int) := by omega
          have n1' : (i : Int) ≤ (gc : Int) := by omega
          have hxs := q1.xs
          rw [List.append_nil] at hxs
          have hel : ∀ (j : Nat) (b : Bk) (r : BkR), bl[j]? = some b → rs[j]? = some r → BkP (fun k => tl T' wr.heap.size 8 k = 0) Z b r := fun j b r hb hr => by
            obtain ⟨X, hX, hP⟩ := hxs
            obtain ⟨x, hx, hxr⟩ : ∃ x, X[j]? = some x ∧ x.1 = r := by
              have h1 : (X.map Prod.fst)[j]? = some r := by rw [hX, List.getElem?_append_left (List.getElem?_eq_some_iff.1 hr).1]; exact hr
              rw [List.getElem?_map] at h1
              cases hx : X[j]? with
              | none => rw [hx] at h1; cases h1
              | some x => rw [hx] at h1; cases h1; exact ⟨x, rfl, rfl⟩
            subst hxr
            exact BkP.mv _ _ _ _ _ _ _ (hP.el j b x hb hx).bkP (Fr.refl (fun _ => False) Z) (fun k hk e => ⟨fun q => q, (hP.bt x k (List.mem_of_getElem? hx) e).1⟩)
          have HDD : Hid (HD w (w.heap.size + 1) fn regs bl (tl T' wr.heap.size 8) rv' vs rs gb go gc Z) := ⟨by rw [unhide hL]; exact q1.hs, by rw [unhide hL]; exact eo, by rw [unhide hrs, unhide hL], hel, q1.bw, by rw [unhide hL]; exact q1.c4, by rw [unhide hL]; exact q1.c5, hxs, q1.tk⟩
          clear q1 q2 hxs hel nz hH HG how eo c1 c2 d1 d2 d3 e0 e1 e2 f0 f1 f2 z3 z4 z5 z6 z7 zf zl c3 c3'
          go_wp2_with fail
          refine wp_region_held_drew (S := (fun W => W.cell? ⟨w.heap.size, 0, none⟩ = some (.int .i64 fn) ∧ W.cell? ⟨w.heap.size, 1, none⟩ = some (.int .i64 regs) ∧ W.cell? ⟨w.heap.size, 2, none⟩ = some (.slice a i acap) ∧ W.cell? ⟨w.heap.size + 1, 7, none⟩ = some (.slice (some ⟨gb, go, none⟩) (i + 16) gc))) (by kernel_rfl) (unhide HSD) (fun hHeld => ?_)
          clear hHeld
          rw [unhide hV]
          refine wpAnyH_take (i := 0) (oi := _) (v := .pointer (some ⟨w.heap.size + 1, 0, none⟩)) rfl (by kernel_rfl) (by kernel_rfl) (by kernel_rfl) (fun _ _ _ h => h) (Or.inl ⟨by rfl, (by intro w' hSw; obtain ⟨s0, s1, s2, s3⟩ := hSw; go_simp)⟩) (unhide HSV) ?_
          go_simp
          refine wpAnyH_take (i := 1) (oi := _) (v := .pointer (some ⟨w.heap.size, 0, none⟩)) rfl (by kernel_rfl) (by kernel_rfl) (by kernel_rfl) (fun _ _ _ h => h) (Or.inl ⟨by rfl, (by intro w' hSw; obtain ⟨s0, s1, s2, s3⟩ := hSw; go_simp)⟩) (unhide HSV) ?_
          go_simp
          refine wpAnyH_take (i := 2) (oi := _) (v := .int .i64 fn) rfl (by kernel_rfl) (by kernel_rfl) (by kernel_rfl) (fun _ _ _ h => h) (Or.inl ⟨by rfl, (by intro w' hSw; obtain ⟨s0, s1, s2, s3⟩ := hSw; go_simp)⟩) (unhide HSV) ?_
          go_simp
          refine wpAnyH_take (i := 3) (oi := _) (v := .pointer (some ⟨w.heap.size, 1, none⟩)) rfl (by kernel_rfl) (by kernel_rfl) (by kernel_rfl) (fun _ _ _ h => h) (Or.inl ⟨by rfl, (by intro w' hSw; obtain ⟨s0, s1, s2, s3⟩ := hSw; go_simp)⟩) (unhide HSV) ?_
          go_simp
          refine wpAnyH_take (i := 4) (oi := _) (v := .int .i64 regs) rfl (by kernel_rfl) (by kernel_rfl) (by kernel_rfl) (fun _ _ _ h => h) (Or.inl ⟨by rfl, (by intro w' hSw; obtain ⟨s0, s1, s2, s3⟩ := hSw; go_simp)⟩) (unhide HSV) ?_
          go_simp
          refine wpAnyH_take (i := 5) (oi := _) (v := .pointer (some ⟨w.heap.size + 1, 0, none⟩)) rfl (by kernel_rfl) (by kernel_rfl) (by kernel_rfl) (fun _ _ _ h => h) (Or.inl ⟨by rfl, (by intro w' hSw; obtain ⟨s0, s1, s2, s3⟩ := hSw; go_simp)⟩) (unhide HSV) ?_
          go_simp
          refine wpAnyH_take (i := 6) (oi := _) (v := .pointer (some ⟨w.heap.size + 1, 0, none⟩)) rfl (by kernel_rfl) (by kernel_rfl) (by kernel_rfl) (fun _ _ _ h => h) (Or.inl ⟨by rfl, (by intro w' hSw; obtain ⟨s0, s1, s2, s3⟩ := hSw; go_simp)⟩) (unhide HSV) ?_
          go_simp
          refine wpAnyH_take (i := 7) (oi := _) (v := .pointer (some ⟨w.heap.size + 1, 7, none⟩)) rfl (by kernel_rfl) (by kernel_rfl) (by kernel_rfl) (fun _ _ _ h => h) (Or.inl ⟨by rfl, (by intro w' hSw; obtain ⟨s0, s1, s2, s3⟩ := hSw; go_simp)⟩) (unhide HSV) ?_
          go_simp
          refine wpAnyH_take (i := 8) (oi := _) (v := .slice (some ⟨gb, go, none⟩) (i + 16) gc) rfl (by kernel_rfl) (by kernel_rfl) (by kernel_rfl) (fun _ _ _ h => h) (Or.inl ⟨by rfl, (by intro w' hSw; obtain ⟨s0, s1, s2, s3⟩ := hSw; go_simp)⟩) (unhide HSV) ?_
          go_simp
          refine wpAnyH_take (i := 9) (oi := _) (v := .pointer (some ⟨w.heap.size, 2, none⟩)) rfl (by kernel_rfl) (by kernel_rfl) (by kernel_rfl) (fun _ _ _ h => h) (Or.inl ⟨by rfl, (by intro w' hSw; obtain ⟨s0, s1, s2, s3⟩ := hSw; go_simp)⟩) (unhide HSV) ?_
          go_simp
          refine wpAnyH_take (i := 10) (oi := _) (v := .slice a i acap) rfl (by kernel_rfl) (by kernel_rfl) (by kernel_rfl) (fun _ _ _ h => h) (Or.inl ⟨by rfl, (by intro w' hSw; obtain ⟨s0, s1, s2, s3⟩ := hSw; go_simp)⟩) (unhide HSV) ?_
          go_simp
          refine wpAnyH_take (i := 11) (oi := _) (v := .int .i64 (i : Int)) rfl (by kernel_rfl) (by kernel_rfl) (by kernel_rfl) (fun _ _ _ h => h) (Or.inl ⟨by rfl, (by intro w' hSw; obtain ⟨s0, s1, s2, s3⟩ := hSw; go_simp)⟩) (unhide HSV) ?_
          go_simp
          refine wpAnyH_take (i := 12) (oi := _) (v := .slice (some ⟨gb, go, none⟩) i gc) rfl (by kernel_rfl) (by kernel_rfl) (by kernel_rfl) (fun _ _ _ h => h) (Or.inl ⟨by rfl, (by intro w' hSw; obtain ⟨s0, s1, s2, s3⟩ := hSw; go_simp)⟩) (unhide HSV) ?_
          go_simp
          refine wpAnyH_take (i := 13) (oi := _) (v := .agg #[.int .i64 fn, .int .i64 regs, .slice (some ⟨gb, go, none⟩) i gc]) rfl (by kernel_rfl) (by kernel_rfl) (by kernel_rfl) (fun _ _ _ h => h) (Or.inl ⟨by rfl, (by intro w' hSw; obtain ⟨s0, s1, s2, s3⟩ := hSw; go_simp)⟩) (unhide HSV) ?_
          go_simp
          refine wpAnyH_take (i := 14) (oi := _) (v := .pointer (some ⟨w.heap.size + 1, 0, none⟩)) rfl (by kernel_rfl) (by kernel_rfl) (by kernel_rfl) (fun _ _ _ h => h) (Or.inl ⟨by rfl, (by intro w' hSw; obtain ⟨s0, s1, s2, s3⟩ := hSw; go_simp)⟩) (unhide HSV) ?_
          go_simp
          refine wpAnyH_take (i := 15) (oi := _) (v := .pointer (some ⟨w.heap.size + 1, 0, none⟩)) rfl (by kernel_rfl) (by kernel_rfl) (by kernel_rfl) (fun _ _ _ h => h) (Or.inl ⟨by rfl, (by intro w' hSw; obtain ⟨s0, s1, s2, s3⟩ := hSw; go_simp)⟩) (unhide HSV) ?_
          go_simp
          refine wpAnyH_ready (rs := [16]) (by kernel_rfl) (by simp) ?_
          refine AllReadyH.cons (o := _) rfl (fun K hK => ?_) AllReadyH.nil
          go_simp
          rw [unhide hZ]
          refine hK.out _ _ (unhide HSz) (fun _ => ?_)
          clear hK K
          go_simp
          refine wpAnyH_done (by kernel_rfl) ?_ _
          clear HSV HSD HSz b0 b1 b2 bf0 bf1 bf2 zlv
          go_wp2_with fail
          go_ret
          exact ⟨_, _, _, rs, gb, go, gc, rfl, unhide HDD⟩
end Go.Proofs.YtpbdmbmafjkinaaDoor
