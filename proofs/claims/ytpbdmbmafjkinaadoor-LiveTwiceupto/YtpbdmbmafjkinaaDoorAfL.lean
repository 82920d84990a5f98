/-
  LiveAfter's law.
-/
import Derived.Test.YtpbdmbmafjkinaaDoorRgC
import Derived.Test.YtpbdmbmafjkinaaDoorRgF
import Derived.Test.YtpbdmbmafjkinaaDoorOvR
import Derived.Test.YtpbdmbmafjkinaaDoorAf
import Derived.Test.YtpbdmbmafjkinaaDoorApI
import Derived.Test.YtpbdmbmafjkinaaDoorLr0
namespace Go.Proofs.YtpbdmbmafjkinaaDoor
open Go.RowKit
set_option linter.unusedVariables false
set_option linter.unusedSimpArgs false
/-- Code that was handed in: the box, its lists, what the code's blocks are. -/
structure HD (w : World) (p : Nat) (fn regs : Int) (bl : List Bk) (T : Nat → Nat) (rv : Nat → Value) (vs : Nat → List Value) (rs : List BkR) (g o c : Nat) (w' : World) : Prop where
  hs : HS T w' p fn regs (.slice (some ⟨g, o, none⟩) bl.length c) rv vs (rs ++ mks mkBk 16)
  r6 : rv 6 = .slice (some ⟨g, o, none⟩) (bl.length + 16) c
  ln : rs.length = bl.length
  el : ∀ (j : Nat) (b : Bk) (r : BkR), bl[j]? = some b → rs[j]? = some r → BkP (fun k => T k = 0) w' b r
  bw : Below w.heap.size w w'
  c4 : (vs 4).length = bl.length
  c5 : (vs 5).length = bl.length
  xs : ∃ X : List TB, X.map Prod.fst = rs ++ mks mkBk 16 ∧ XP T w.heap.size bl w' X
  tk : ∀ k, k < w.heap.size → T k = 0
theorem infoBk : ∃ i, Tryd.prog.info? 47 = some i ∧ i.zero = some (.agg #[.int .i64 0, .slice none 0 0, .slice none 0 0]) ∧ i.size = 3 ∧ i.bytes = 56 := info_parts infBk
set_option maxRecDepth 100000 in
set_option maxHeartbeats 12800000 in
theorem handCode_any {w : World} {fn regs : Int} {blv : Value} {bl : List Bk} (hl : BksV (fun k => k < w.heap.size) w bl blv)
    (hN : bl.length ≤ 1073741824) (hM : ∀ b ∈ bl, b.ins.length ≤ 1073741824 ∧ b.nx.length ≤ 1073741824 ∧ ∀ x ∈ b.ins, x.args.length ≤ 1073741824 ∧ x.ex.length ≤ 1073741824 ∧ ∀ s ∈ x.ex, s.sl.length ≤ 1073741824) (h2 : bkW bl ≤ 1073741824) (h3 : bkI bl ≤ 1073741824) :
    Calls Tryd.prog 8 #[.agg #[.int .i64 fn, .int .i64 regs, blv]] w fun e w' => ∃ T rv vs rs g o c, e = .returned (.pointer (some ⟨w.heap.size + 1, 0, none⟩)) ∧ HD w (w.heap.size + 1) fn regs bl T rv vs rs g o c w' := by
  obtain ⟨a, acap, rfl, ha1, ha2⟩ := NV.shape hl
  have HA := hide hl
  have HM := hide hM
  unfold maxLen at ha2
  clear hl hM
  obtain ⟨L, hL⟩ : ∃ L, Hid (bl.length = L) := ⟨_, hide rfl⟩
  rw [unhide hL] at ha1 hN HA ⊢
  have HX := hide (HC.start w fn regs (.slice a L acap) bl)
  go_enter Tryd.func8, Tryd.ntmps8
  go_wp2_with fail
  go_loopg [4] L (fun gg t4 wr => ∃ (i : Nat) (rs : List BkR) (T : Nat → Nat) (rv : Nat → Value) (vs : Nat → List Value), Hid (i + gg = L) ∧ t4 = .int .i64 (i : Int) ∧ Hid (rs.length = i) ∧ Hid (HC w fn regs (.slice a L acap) 0 0 (.slice none 0 0) bl i rs [] T rv vs wr))
  case atStart => exact ⟨0, _, _, _, _, by unfold Hid; omega, rfl, hide rfl, HX⟩
  case round =>
    clear HX
    obtain ⟨i, rs, T, rv, vs, hi, rfl, hrs, hH⟩ := hrel
    obtain ⟨c1, c2, c3⟩ := blk_cells (unhide hH).cb
    have y0 := c1 0
    have y1 := c1 1
    have y2 := c1 2
    simp at y0 y1 y2
    clear c1 c2
    by_cases hlt : i < L
    · obtain ⟨b, hb⟩ : ∃ b, bl[i]? = some b := ⟨_, List.getElem?_eq_getElem (by rw [unhide hL]; exact hlt)⟩
      have HA' := HA
      rw [← unhide hL] at HA'
      obtain ⟨eb, off, cap, ia, ic, na, nc, e, heb, _, hbp, hs1, hs2, hs3, hs4, hcl⟩ := (unhide HA').at hb
      rw [unhide hL] at e
      cases e
      have i0 : (0 : Int) ≤ (i : Int) := by omega
      have i1 : (i : Int) < (L : Int) := by omega
      have hbr := Nat.lt_of_lt_of_le heb (unhide hH).bw.size
      obtain ⟨k0, k1, k2⟩ := hcl wr ((unhide hH).bw.block eb heb)
      have HB1 := hide hb
      obtain ⟨hm1, hm2, hm3⟩ := unhide HM b (List.mem_of_getElem? hb)
      have HCALL := hide (handBlock_any (unhide hH).hs (BkP.mv _ (fun k => T k = 0) _ _ _ _ _ hbp (Fr.of_below (S := fun k => ¬ k < w.heap.size) ((unhide hH).bw)) (fun k hk e => ⟨fun q => q e, (unhide hH).tk k hk⟩)) hm1 hm2 hm3 (by
        have q1 := (unhide hH).c2
        have q2 := bkW_le bl (i + 1)
        rw [bkW_push hb] at q2
        omega) (by
        have q1 := (unhide hH).c3
        have q2 := bkI_le bl (i + 1)
        rw [bkI_push hb] at q2
        omega) (by have q1 := (unhide hH).c4; omega) (by have q1 := (unhide hH).c5; omega))
      unfold bkV at HCALL
      dsimp only at HCALL
      unfold maxLen at hs2 hs4
      clear hcl hb hbp HA' hm3
      go_wp2_with fail
      refine (unhide HCALL).mono ?_
      rintro e w1 ⟨⟨rp, ri, rn⟩, rfl, hBk⟩
      clear HCALL k0 k1 k2 hbr y0 y1 y2 c3
      obtain ⟨T1, rv1, vs1, g1, g2, g3⟩ := (unhide hH).block (unhide hrs) (unhide HB1) hBk
      obtain ⟨ra, rc, er1, _, _⟩ := NV.shape g2.2.1
      obtain ⟨sa, sc, er2, _, _⟩ := g2.2.2.1.shape
      dsimp only at er1 er2
      subst er1 er2
      obtain ⟨rn, hrn⟩ : ∃ rn, Hid (b.ins.length = rn) := ⟨_, hide rfl⟩
      obtain ⟨sn, hsn⟩ : ∃ sn, Hid (b.nx.length = sn) := ⟨_, hide rfl⟩
      rw [unhide hrn, unhide hsn] at g1 g2
      rw [unhide hrn, unhide hsn]
      have HG := hide (g1.below (((box1n w1 (.cells #[.int .i64 rp, .slice ra rn rc, .slice sa sn sc] 47))).trans ((bl_drew _).mono (by simp))) 8)
      have hxb := heap_alloc_new w1 (.cells #[.int .i64 rp, .slice ra rn rc, .slice sa sn sc] 47)
      have hxb' : (w1.alloc (.cells #[.int .i64 rp, .slice ra rn rc, .slice sa sn sc] 47)).drew.heap[w1.heap.size]? = some (.cells #[.int .i64 rp, .slice ra rn rc, .slice sa sn sc] 47) := hxb
      obtain ⟨x1, x2, x3⟩ := blk_cells hxb'
      have HSD : Hid ((w1.alloc (.cells #[.int .i64 rp, .slice ra rn rc, .slice sa sn sc] 47)).drew.cell? ⟨w1.heap.size, 0, none⟩ = some (.int .i64 rp) ∧ (w1.alloc (.cells #[.int .i64 rp, .slice ra rn rc, .slice sa sn sc] 47)).drew.cell? ⟨w1.heap.size, 1, none⟩ = some (.slice ra rn rc) ∧ (w1.alloc (.cells #[.int .i64 rp, .slice ra rn rc, .slice sa sn sc] 47)).drew.cell? ⟨w1.heap.size, 2, none⟩ = some (.slice sa sn sc)) := ⟨x1 0, x1 1, x1 2⟩
      obtain ⟨V, hV⟩ : ∃ V, Hid ((w1.alloc (.cells #[.int .i64 rp, .slice ra rn rc, .slice sa sn sc] 47)).drew = V) := ⟨_, hide rfl⟩
      have HSV := HSD
      rw [unhide hV] at HSV HG x3
      have hTx : tl T1 w1.heap.size 8 w1.heap.size = 8 := tl_ge _ _ (Nat.le_refl _)
      obtain ⟨T2, hT2⟩ : ∃ T2, Hid (tl T1 w1.heap.size 8 = T2) := ⟨_, hide rfl⟩
      rw [unhide hT2] at HG hTx
      obtain ⟨Wa, hWa⟩ : ∃ Wa, Hid (V.alloc (.cells #[.int .i64 rp, .slice ra rn rc, .slice sa sn sc] 47) = Wa) := ⟨_, hide rfl⟩
      have HBa : Hid (Below V.heap.size V Wa) := by rw [← unhide hWa]; exact box1n V _
      have hvl : Wa.heap.size = V.heap.size + 1 := by rw [← unhide hWa]; simp
      obtain ⟨i0r, hi0r, hz0r, hz1r, hz2r⟩ := infoBk
      have hgow : Ro Wa 3 (rv1 6) rs.length (flt enBk rs) := (unhide HG).hs.brow.fr (Fr.of_below (S := fun _ => False) (unhide HBa)) (fun _ _ e => e)
      obtain ⟨v', w3, hrun, hr3, hg3, hat3⟩ := Ro.app (P := Tryd.prog) 22 22 47 i0r _ 3 56 Tryd.underlying22 hi0r hz0r hz1r hz2r rfl (by decide) hgow ⟨V.heap.size, 0, none⟩ 1 1 (enBk ⟨rp, .slice ra rn rc, .slice sa sn sc⟩) rfl (by rw [← unhide hWa]; exact new_cells _ _ _) (by intro u hu; simp only [enBk, List.mem_cons, List.not_mem_nil, or_false] at hu; rcases hu with rfl | rfl | rfl <;> rfl) (by omega) (by unfold maxLen; rw [unhide hrs]; omega) (by rw [unhide hrs]; omega)
      obtain ⟨va, vc, ev, _, _⟩ := hr3.shape
      subst ev
      have HRUN := hide hrun
      obtain ⟨q1, q2⟩ := (unhide HG).pushB (unhide HBa) hr3 rfl hg3 hat3
      obtain ⟨Z, hZ⟩ : ∃ Z, Hid (w3.setCell ⟨w.heap.size + 1, 7, none⟩ (.slice va (rs.length + 1) vc) = Z) := ⟨_, hide rfl⟩
      rw [unhide hZ] at q1 q2
      have HCN := hide q1
      have HRL : Hid ((rs ++ [(⟨rp, .slice ra rn rc, .slice sa sn sc⟩ : BkR)]).length = i + 1) := by rw [List.length_append, unhide hrs]; rfl
      have f3 : Fr (fun k => (rv1 6).ownBlock = some k) Wa w3 := (Fr.refl _ Wa).grown hg3 (fun k e => .inr e)
      have htg := (unhide HG).hs.tag 6 (by omega) (by omega)
      have htp := (unhide HG).hs.tp
      obtain ⟨z3, z4, z5, z6, z7, zf, zl⟩ := (unhide HG).hs.cell
      have HSa : Hid (Wa.cell? ⟨w1.heap.size, 0, none⟩ = some (.int .i64 rp) ∧ Wa.cell? ⟨w1.heap.size, 1, none⟩ = some (.slice ra rn rc) ∧ Wa.cell? ⟨w1.heap.size, 2, none⟩ = some (.slice sa sn sc)) := ⟨((unhide HBa).cell (p := ⟨w1.heap.size, 0, none⟩) x3).trans (unhide HSV).1, ((unhide HBa).cell (p := ⟨w1.heap.size, 1, none⟩) x3).trans (unhide HSV).2.1, ((unhide HBa).cell (p := ⟨w1.heap.size, 2, none⟩) x3).trans (unhide HSV).2.2⟩
      have hxa : w1.heap.size < Wa.heap.size := by omega
      have nx : ¬ (rv1 6).ownBlock = some w1.heap.size := fun e => by have := htg _ e; omega
      have HSw : Hid (w3.cell? ⟨w1.heap.size, 0, none⟩ = some (.int .i64 rp) ∧ w3.cell? ⟨w1.heap.size, 1, none⟩ = some (.slice ra rn rc) ∧ w3.cell? ⟨w1.heap.size, 2, none⟩ = some (.slice sa sn sc)) := ⟨(f3.cell (a := ⟨w1.heap.size, 0, none⟩) hxa nx).trans (unhide HSa).1, (f3.cell (a := ⟨w1.heap.size, 1, none⟩) hxa nx).trans (unhide HSa).2.1, (f3.cell (a := ⟨w1.heap.size, 2, none⟩) hxa nx).trans (unhide HSa).2.2⟩
      have HSz : Hid (Z.cell? ⟨w1.heap.size, 0, none⟩ = some (.int .i64 rp) ∧ Z.cell? ⟨w1.heap.size, 1, none⟩ = some (.slice ra rn rc) ∧ Z.cell? ⟨w1.heap.size, 2, none⟩ = some (.slice sa sn sc)) := by
        have nz : ¬ (T2 w1.heap.size = 6 ∨ T2 w1.heap.size = 1) := by omega
        exact ⟨(q2.cell (a := ⟨w1.heap.size, 0, none⟩) x3 nz).trans (unhide HSV).1, (q2.cell (a := ⟨w1.heap.size, 1, none⟩) x3 nz).trans (unhide HSV).2.1, (q2.cell (a := ⟨w1.heap.size, 2, none⟩) x3 nz).trans (unhide HSV).2.2⟩
      have ga : Wa.cell? ⟨w.heap.size + 1, 7, none⟩ = some (rv1 6) := ((unhide HBa).cell (p := ⟨w.heap.size + 1, 7, none⟩) zl).trans z7
      have gaz : w.heap.size + 1 < Wa.heap.size := by omega
      have np : ¬ (rv1 6).ownBlock = some (w.heap.size + 1) := fun e => by have := htg _ e; omega
      have hV2 : w3.cell? ⟨w.heap.size + 1, 7, none⟩ = some (rv1 6) := (f3.cell (a := ⟨w.heap.size + 1, 7, none⟩) gaz np).trans ga
      have hV2f : w3.frozen? ⟨w.heap.size + 1, 7, none⟩ = false := (f3.frozen (a := ⟨w.heap.size + 1, 7, none⟩) gaz np).trans ((World.frozen?_of_block ((unhide HBa).block _ zl)).trans (zf 7))
      have hV2z : w.heap.size + 1 < w3.heap.size := Nat.lt_of_lt_of_le gaz f3.size
      clear hrun hr3 hg3 hat3 hgow q1 q2 f3 htg htp z3 z4 z5 z6 zf hi0r hz0r hz1r hz2r HBa hvl x1 x2 hxb hxb' HG nx np hxa hTx g1 g2 g3 hBk HA hH
      dsimp only
      go_wp2_with fail
      refine wp_region_held_drew (S := (fun W => W.cell? ⟨w1.heap.size, 0, none⟩ = some (.int .i64 rp) ∧ W.cell? ⟨w1.heap.size, 1, none⟩ = some (.slice ra rn rc) ∧ W.cell? ⟨w1.heap.size, 2, none⟩ = some (.slice sa sn sc))) (by kernel_rfl) (unhide HSD) (fun hHeld => ?_)
      clear hHeld
      rw [unhide hV]
      refine wpAnyH_take (i := 0) (oi := _) (v := .pointer (some ⟨w.heap.size + 1, 0, none⟩)) rfl (by kernel_rfl) (by kernel_rfl) (by kernel_rfl) (fun _ _ _ h => h) (Or.inl ⟨by rfl, (by intro w' hSw; obtain ⟨s0, s1, s2⟩ := hSw; go_simp)⟩) (unhide HSV) ?_
      go_simp
      refine wpAnyH_take (i := 1) (oi := _) (v := .pointer (some ⟨w.heap.size + 1, 0, none⟩)) rfl (by kernel_rfl) (by kernel_rfl) (by kernel_rfl) (fun _ _ _ h => h) (Or.inl ⟨by rfl, (by intro w' hSw; obtain ⟨s0, s1, s2⟩ := hSw; go_simp)⟩) (unhide HSV) ?_
      go_simp
      refine wpAnyH_take (i := 2) (oi := _) (v := .pointer (some ⟨w.heap.size + 1, 0, none⟩)) rfl (by kernel_rfl) (by kernel_rfl) (by kernel_rfl) (fun _ _ _ h => h) (Or.inl ⟨by rfl, (by intro w' hSw; obtain ⟨s0, s1, s2⟩ := hSw; go_simp)⟩) (unhide HSV) ?_
      go_simp
      refine wpAnyH_take (i := 3) (oi := _) (v := .pointer (some ⟨w.heap.size + 1, 7, none⟩)) rfl (by kernel_rfl) (by kernel_rfl) (by kernel_rfl) (fun _ _ _ h => h) (Or.inl ⟨by rfl, (by intro w' hSw; obtain ⟨s0, s1, s2⟩ := hSw; go_simp)⟩) (unhide HSV) ?_
      go_simp
      refine wpAnyH_take (i := 5) (oi := _) (v := .agg #[.int .i64 rp, .slice ra rn rc, .slice sa sn sc]) rfl (by kernel_rfl) (by kernel_rfl) (by kernel_rfl) (fun _ _ _ h => h) (Or.inl ⟨by rfl, (by intro w' hSw; obtain ⟨s0, s1, s2⟩ := hSw; go_simp)⟩) (unhide HSV) ?_
      go_simp
      refine wpAnyH_ready (rs := [4, 6]) (by kernel_rfl) (by simp) ?_
      refine AllReadyH.cons (o := _) rfl (fun K hK => ?_) (AllReadyH.cons (o := _) rfl (fun K hK => ?_) AllReadyH.nil)
      · go_simp
        refine hK.out _ _ (unhide HSV) (fun _ => ?_)
        clear hK K
        go_simp
        refine wpAnyH_ready (rs := [6]) (by kernel_rfl) (by simp) ?_
        refine AllReadyH.cons (o := _) rfl (fun K hK => ?_) AllReadyH.nil
        go_simp
        rw [unhide hWa]
        refine hK.out _ _ (unhide HSa) (fun _ => ?_)
        clear hK K
        go_simp
        refine wpAnyH_ready (rs := [7]) (by kernel_rfl) (by simp) ?_
        refine AllReadyH.cons (o := _) rfl (fun K hK => ?_) AllReadyH.nil
        refine step_appRun rfl _ _ (by rfl) _ _ _ (by rfl) (by rfl) (unhide HRUN) ?_
        refine hK.out _ _ (unhide HSw) (fun _ => ?_)
        clear hK K
        go_simp
        refine wpAnyH_take (i := 8) (oi := _) (v := .pointer (some ⟨w.heap.size + 1, 0, none⟩)) rfl (by kernel_rfl) (by kernel_rfl) (by kernel_rfl) (fun _ _ _ h => h) (Or.inl ⟨by rfl, (by intro w' hSw; obtain ⟨s0, s1, s2⟩ := hSw; go_simp)⟩) (unhide HSw) ?_
        go_simp
        refine wpAnyH_take (i := 9) (oi := _) (v := .pointer (some ⟨w.heap.size + 1, 7, none⟩)) rfl (by kernel_rfl) (by kernel_rfl) (by kernel_rfl) (fun _ _ _ h => h) (Or.inl ⟨by rfl, (by intro w' hSw; obtain ⟨s0, s1, s2⟩ := hSw; go_simp)⟩) (unhide HSw) ?_
        go_simp
        refine wpAnyH_ready (rs := [10]) (by kernel_rfl) (by simp) ?_
        refine AllReadyH.cons (o := _) rfl (fun K hK => ?_) AllReadyH.nil
        go_simp
        rw [unhide hZ]
        refine hK.out _ _ (unhide HSz) (fun _ => ?_)
        clear hK K
        go_simp
        refine wpAnyH_done (by kernel_rfl) ?_ _
        clear HSV HSD HSa HSw HRUN ga gaz hV2 hV2z hV2f z7 zl HSz
        go_wp2_with fail
        go_roundg (gk - 1)
        case measure => have := unhide hi; omega
        case rel => exact ⟨i + 1, _, _, _, _, by have := unhide hi; unfold Hid; omega, by go_num, HRL, HCN⟩
      · go_simp
        rw [unhide hWa]
        refine hK.out _ _ (unhide HSa) (fun _ => ?_)
        clear hK K
        go_simp
        refine wpAnyH_ready (rs := [4]) (by kernel_rfl) (by simp) ?_
        refine AllReadyH.cons (o := _) rfl (fun K hK => ?_) AllReadyH.nil
        go_simp
        refine hK.out _ _ (unhide HSa) (fun _ => ?_)
        clear hK K
        go_simp
        refine wpAnyH_ready (rs := [7]) (by kernel_rfl) (by simp) ?_
        refine AllReadyH.cons (o := _) rfl (fun K hK => ?_) AllReadyH.nil
        refine step_appRun rfl _ _ (by rfl) _ _ _ (by rfl) (by rfl) (unhide HRUN) ?_
        refine hK.out _ _ (unhide HSw) (fun _ => ?_)
        clear hK K
        go_simp
        refine wpAnyH_take (i := 8) (oi := _) (v := .pointer (some ⟨w.heap.size + 1, 0, none⟩)) rfl (by kernel_rfl) (by kernel_rfl) (by kernel_rfl) (fun _ _ _ h => h) (Or.inl ⟨by rfl, (by intro w' hSw; obtain ⟨s0, s1, s2⟩ := hSw; go_simp)⟩) (unhide HSw) ?_
        go_simp
        refine wpAnyH_take (i := 9) (oi := _) (v := .pointer (some ⟨w.heap.size + 1, 7, none⟩)) rfl (by kernel_rfl) (by kernel_rfl) (by kernel_rfl) (fun _ _ _ h => h) (Or.inl ⟨by rfl, (by intro w' hSw; obtain ⟨s0, s1, s2⟩ := hSw; go_simp)⟩) (unhide HSw) ?_
        go_simp
        refine wpAnyH_ready (rs := [10]) (by kernel_rfl) (by simp) ?_
        refine AllReadyH.cons (o := _) rfl (fun K hK => ?_) AllReadyH.nil
        go_simp
        rw [unhide hZ]
        refine hK.out _ _ (unhide HSz) (fun _ => ?_)
        clear hK K
        go_simp
        refine wpAnyH_done (by kernel_rfl) ?_ _
        clear HSV HSD HSa HSw HRUN ga gaz hV2 hV2z hV2f z7 zl HSz
        go_wp2_with fail
        go_roundg (gk - 1)
        case measure => have := unhide hi; omega
        case rel => exact ⟨i + 1, _, _, _, _, by have := unhide hi; unfold Hid; omega, by go_num, HRL, HCN⟩
    · have hiL : i = L := by have := unhide hi; omega
      subst hiL
      clear HA HM
      go_wp2_with fail
      clear y0 y1 y2 c3
      go_loopg [6] 16 (fun g t6 wq => ∃ (m : Nat) (T' : Nat → Nat) (rv' : Nat → Value), Hid (m + g = 16) ∧ t6 = .int .i64 (m : Int) ∧ Hid (HC w fn regs (.slice a i acap) 0 0 (.slice none 0 0) bl i (rs ++ mks mkBk m) [] T' rv' vs wq))
      case atStart => exact ⟨0, T, rv, by unfold Hid; omega, rfl, by have q := unhide hH; exact hide (by simpa [mks] using q)⟩
      case round =>
        clear hH
        obtain ⟨m, T', rv', hm, rfl, hH⟩ := hrel
        obtain ⟨z3, z4, z5, z6, z7, zf, zl⟩ := (unhide hH).hs.cell
        by_cases hmt : m < 16
        · have j0 : (0 : Int) ≤ (m : Int) := by omega
          have j1 : (m : Int) < 16 := by omega
          have zf7 := zf 7
          have HROW := hide (unhide hH).hs.brow
          have HLB : Hid ((rs ++ mks mkBk m).length ≤ 1099511627776) := by rw [List.length_append, mks_length, unhide hrs]; unfold Hid; omega
          clear zf z3 z4 z5 z6
          go_wp2_with (first | (at_builtin; refine appBk rfl _ _ rfl _ (rs ++ mks mkBk m) rfl ((unhide HROW).keep (fun g hg => Below.heap_alloc _ _ _ ((unhide HROW).lt g hg))) ⟨wr.heap.size, 0, none⟩ 1 (mkBk m) rfl (new_cells _ _ _) rfl rfl (unhide HLB) ?_))
          intro v' w2 hr hg hat
          obtain ⟨va, vc, ev, _, _⟩ := hr.shape
          subst ev
          have hp2 := prow (unhide hH).hs (t := 6) (by omega) (by omega) _ w2 hg
          have z7' : w2.cell? ⟨w.heap.size + 1, 7, none⟩ = some (rv' 6) := (World.cell?_of_block hp2).trans z7
          have zf7' : w2.frozen? ⟨w.heap.size + 1, 7, none⟩ = false := (World.frozen?_of_block hp2).trans zf7
          have zl' : w.heap.size + 1 < w2.heap.size := Nat.lt_of_lt_of_le zl (Nat.le_trans (by simp) hg.size)
          have HP := hide (((unhide hH).mark (by rw [List.length_append, unhide hrs, unhide hL]; omega) m).pushB (box1n wr _) hr (by simp) hg (by simpa using hat)).1
          rw [List.append_assoc, ← mks_succ] at HP
          clear hr hg hat HROW HLB hp2 z7 zf7 zl
          go_wp2_with fail
          go_roundg (gk - 1)
          case measure => have := unhide hm; omega
          case rel => exact ⟨m + 1, _, _, by have := unhide hm; unfold Hid; omega, by go_num, HP⟩
        · have hm16 : m = 16 := by have := unhide hm; omega
          subst hm16
          have how := (unhide hH).hs.brow
          rw [List.length_append, mks_length, unhide hrs] at how
          obtain ⟨gb, go, gc, eo, hg1, hg2, _⟩ := how.full (by omega)
          unfold maxLen at hg2
          obtain ⟨c1, c2, c3⟩ := blk_cells (unhide hH).cb
          obtain ⟨d1, d2, d3⟩ := blk_cells (unhide hH).hs.box
          have HSD : Hid (wr.drew.cell? ⟨w.heap.size, 0, none⟩ = some (.int .i64 fn) ∧ wr.drew.cell? ⟨w.heap.size, 1, none⟩ = some (.int .i64 regs) ∧ wr.drew.cell? ⟨w.heap.size, 2, none⟩ = some (.slice a i acap) ∧ wr.drew.cell? ⟨w.heap.size + 1, 7, none⟩ = some (.slice (some ⟨gb, go, none⟩) (i + 16) gc)) := ⟨c1 0, c1 1, c1 2, by rw [← eo]; exact z7⟩
          have HG := hide ((unhide hH).below (bl_drew wr) 8)
          have e0 : wr.drew.cell? ⟨w.heap.size + 1, 0, none⟩ = some (.int .i64 0) := d1 0
          have e1 : wr.drew.cell? ⟨w.heap.size + 1, 1, none⟩ = some (.int .i64 0) := d1 1
          have e2 : wr.drew.cell? ⟨w.heap.size + 1, 2, none⟩ = some (.slice none 0 0) := d1 2
          have f0 : wr.drew.frozen? ⟨w.heap.size + 1, 0, none⟩ = false := d2 0
          have f1 : wr.drew.frozen? ⟨w.heap.size + 1, 1, none⟩ = false := d2 1
          have f2 : wr.drew.frozen? ⟨w.heap.size + 1, 2, none⟩ = false := d2 2
          have zlv : w.heap.size + 1 < wr.drew.heap.size := zl
          have c3' : w.heap.size < wr.drew.heap.size := c3
          obtain ⟨V, hV⟩ : ∃ V, Hid (wr.drew = V) := ⟨_, hide rfl⟩
          have HSV := HSD
          rw [unhide hV] at HSV HG zlv c3'
          have b0 : V.cell? ⟨w.heap.size + 1, 0, none⟩ = some (.int .i64 0) := by rw [← unhide hV]; exact e0
          have b1 : V.cell? ⟨w.heap.size + 1, 1, none⟩ = some (.int .i64 0) := by rw [← unhide hV]; exact e1
          have b2 : V.cell? ⟨w.heap.size + 1, 2, none⟩ = some (.slice none 0 0) := by rw [← unhide hV]; exact e2
          have bf0 : V.frozen? ⟨w.heap.size + 1, 0, none⟩ = false := by rw [← unhide hV]; exact f0
          have bf1 : V.frozen? ⟨w.heap.size + 1, 1, none⟩ = false := by rw [← unhide hV]; exact f1
          have bf2 : V.frozen? ⟨w.heap.size + 1, 2, none⟩ = false := by rw [← unhide hV]; exact f2
          obtain ⟨q1, q2⟩ := (unhide HG).code fn regs (.slice (some ⟨gb, go, none⟩) i gc)
          obtain ⟨Z, hZ⟩ : ∃ Z, Hid (((V.setCell ⟨w.heap.size + 1, 0, none⟩ (.int .i64 fn)).setCell ⟨w.heap.size + 1, 1, none⟩ (.int .i64 regs)).setCell ⟨w.heap.size + 1, 2, none⟩ (.slice (some ⟨gb, go, none⟩) i gc) = Z) := ⟨_, hide rfl⟩
          rw [unhide hZ] at q1 q2
          have nz : ¬ (w.heap.size = w.heap.size + 1) := by omega
          have HSz : Hid (Z.cell? ⟨w.heap.size, 0, none⟩ = some (.int .i64 fn) ∧ Z.cell? ⟨w.heap.size, 1, none⟩ = some (.int .i64 regs) ∧ Z.cell? ⟨w.heap.size, 2, none⟩ = some (.slice a i acap) ∧ Z.cell? ⟨w.heap.size + 1, 7, none⟩ = some (.slice (some ⟨gb, go, none⟩) (i + 16) gc)) := ⟨(q2.cell (a := ⟨w.heap.size, 0, none⟩) c3' nz).trans (unhide HSV).1, (q2.cell (a := ⟨w.heap.size, 1, none⟩) c3' nz).trans (unhide HSV).2.1, (q2.cell (a := ⟨w.heap.size, 2, none⟩) c3' nz).trans (unhide HSV).2.2.1, by rw [← eo]; exact q1.hs.cell.2.2.2.2.1⟩
          have n0' : (0 : Int) ≤ (i : Int) := by omega
          have n1' : (i : Int) ≤ (gc : Int) := by omega
          have hxs := q1.xs
          rw [List.append_nil] at hxs
          have hel : ∀ (j : Nat) (b : Bk) (r : BkR), bl[j]? = some b → rs[j]? = some r → BkP (fun k => tl T' wr.heap.size 8 k = 0) Z b r := fun j b r hb hr => by
            obtain ⟨X, hX, hP⟩ := hxs
            obtain ⟨x, hx, hxr⟩ : ∃ x, X[j]? = some x ∧ x.1 = r := by
              have h1 : (X.map Prod.fst)[j]? = some r := by rw [hX, List.getElem?_append_left (List.getElem?_eq_some_iff.1 hr).1]; exact hr
              rw [List.getElem?_map] at h1
              cases hx : X[j]? with
              | none => rw [hx] at h1; cases h1
              | some x => rw [hx] at h1; cases h1; exact ⟨x, rfl, rfl⟩
            subst hxr
            exact BkP.mv _ _ _ _ _ _ _ (hP.el j b x hb hx).bkP (Fr.refl (fun _ => False) Z) (fun k hk e => ⟨fun q => q, (hP.bt x k (List.mem_of_getElem? hx) e).1⟩)
          have HDD : Hid (HD w (w.heap.size + 1) fn regs bl (tl T' wr.heap.size 8) rv' vs rs gb go gc Z) := ⟨by rw [unhide hL]; exact q1.hs, by rw [unhide hL]; exact eo, by rw [unhide hrs, unhide hL], hel, q1.bw, by rw [unhide hL]; exact q1.c4, by rw [unhide hL]; exact q1.c5, hxs, q1.tk⟩
          clear q1 q2 hxs hel nz hH HG how eo c1 c2 d1 d2 d3 e0 e1 e2 f0 f1 f2 z3 z4 z5 z6 z7 zf zl c3 c3'
          go_wp2_with fail
          refine wp_region_held_drew (S := (fun W => W.cell? ⟨w.heap.size, 0, none⟩ = some (.int .i64 fn) ∧ W.cell? ⟨w.heap.size, 1, none⟩ = some (.int .i64 regs) ∧ W.cell? ⟨w.heap.size, 2, none⟩ = some (.slice a i acap) ∧ W.cell? ⟨w.heap.size + 1, 7, none⟩ = some (.slice (some ⟨gb, go, none⟩) (i + 16) gc))) (by kernel_rfl) (unhide HSD) (fun hHeld => ?_)
          clear hHeld
          rw [unhide hV]
          refine wpAnyH_take (i := 0) (oi := _) (v := .pointer (some ⟨w.heap.size + 1, 0, none⟩)) rfl (by kernel_rfl) (by kernel_rfl) (by kernel_rfl) (fun _ _ _ h => h) (Or.inl ⟨by rfl, (by intro w' hSw; obtain ⟨s0, s1, s2, s3⟩ := hSw; go_simp)⟩) (unhide HSV) ?_
          go_simp
          refine wpAnyH_take (i := 1) (oi := _) (v := .pointer (some ⟨w.heap.size, 0, none⟩)) rfl (by kernel_rfl) (by kernel_rfl) (by kernel_rfl) (fun _ _ _ h => h) (Or.inl ⟨by rfl, (by intro w' hSw; obtain ⟨s0, s1, s2, s3⟩ := hSw; go_simp)⟩) (unhide HSV) ?_
          go_simp
          refine wpAnyH_take (i := 2) (oi := _) (v := .int .i64 fn) rfl (by kernel_rfl) (by kernel_rfl) (by kernel_rfl) (fun _ _ _ h => h) (Or.inl ⟨by rfl, (by intro w' hSw; obtain ⟨s0, s1, s2, s3⟩ := hSw; go_simp)⟩) (unhide HSV) ?_
          go_simp
          refine wpAnyH_take (i := 3) (oi := _) (v := .pointer (some ⟨w.heap.size, 1, none⟩)) rfl (by kernel_rfl) (by kernel_rfl) (by kernel_rfl) (fun _ _ _ h => h) (Or.inl ⟨by rfl, (by intro w' hSw; obtain ⟨s0, s1, s2, s3⟩ := hSw; go_simp)⟩) (unhide HSV) ?_
          go_simp
          refine wpAnyH_take (i := 4) (oi := _) (v := .int .i64 regs) rfl (by kernel_rfl) (by kernel_rfl) (by kernel_rfl) (fun _ _ _ h => h) (Or.inl ⟨by rfl, (by intro w' hSw; obtain ⟨s0, s1, s2, s3⟩ := hSw; go_simp)⟩) (unhide HSV) ?_
          go_simp
          refine wpAnyH_take (i := 5) (oi := _) (v := .pointer (some ⟨w.heap.size + 1, 0, none⟩)) rfl (by kernel_rfl) (by kernel_rfl) (by kernel_rfl) (fun _ _ _ h => h) (Or.inl ⟨by rfl, (by intro w' hSw; obtain ⟨s0, s1, s2, s3⟩ := hSw; go_simp)⟩) (unhide HSV) ?_
          go_simp
          refine wpAnyH_take (i := 6) (oi := _) (v := .pointer (some ⟨w.heap.size + 1, 0, none⟩)) rfl (by kernel_rfl) (by kernel_rfl) (by kernel_rfl) (fun _ _ _ h => h) (Or.inl ⟨by rfl, (by intro w' hSw; obtain ⟨s0, s1, s2, s3⟩ := hSw; go_simp)⟩) (unhide HSV) ?_
          go_simp
          refine wpAnyH_take (i := 7) (oi := _) (v := .pointer (some ⟨w.heap.size + 1, 7, none⟩)) rfl (by kernel_rfl) (by kernel_rfl) (by kernel_rfl) (fun _ _ _ h => h) (Or.inl ⟨by rfl, (by intro w' hSw; obtain ⟨s0, s1, s2, s3⟩ := hSw; go_simp)⟩) (unhide HSV) ?_
          go_simp
          refine wpAnyH_take (i := 8) (oi := _) (v := .slice (some ⟨gb, go, none⟩) (i + 16) gc) rfl (by kernel_rfl) (by kernel_rfl) (by kernel_rfl) (fun _ _ _ h => h) (Or.inl ⟨by rfl, (by intro w' hSw; obtain ⟨s0, s1, s2, s3⟩ := hSw; go_simp)⟩) (unhide HSV) ?_
          go_simp
          refine wpAnyH_take (i := 9) (oi := _) (v := .pointer (some ⟨w.heap.size, 2, none⟩)) rfl (by kernel_rfl) (by kernel_rfl) (by kernel_rfl) (fun _ _ _ h => h) (Or.inl ⟨by rfl, (by intro w' hSw; obtain ⟨s0, s1, s2, s3⟩ := hSw; go_simp)⟩) (unhide HSV) ?_
          go_simp
          refine wpAnyH_take (i := 10) (oi := _) (v := .slice a i acap) rfl (by kernel_rfl) (by kernel_rfl) (by kernel_rfl) (fun _ _ _ h => h) (Or.inl ⟨by rfl, (by intro w' hSw; obtain ⟨s0, s1, s2, s3⟩ := hSw; go_simp)⟩) (unhide HSV) ?_
          go_simp
          refine wpAnyH_take (i := 11) (oi := _) (v := .int .i64 (i : Int)) rfl (by kernel_rfl) (by kernel_rfl) (by kernel_rfl) (fun _ _ _ h => h) (Or.inl ⟨by rfl, (by intro w' hSw; obtain ⟨s0, s1, s2, s3⟩ := hSw; go_simp)⟩) (unhide HSV) ?_
          go_simp
          refine wpAnyH_take (i := 12) (oi := _) (v := .slice (some ⟨gb, go, none⟩) i gc) rfl (by kernel_rfl) (by kernel_rfl) (by kernel_rfl) (fun _ _ _ h => h) (Or.inl ⟨by rfl, (by intro w' hSw; obtain ⟨s0, s1, s2, s3⟩ := hSw; go_simp)⟩) (unhide HSV) ?_
          go_simp
          refine wpAnyH_take (i := 13) (oi := _) (v := .agg #[.int .i64 fn, .int .i64 regs, .slice (some ⟨gb, go, none⟩) i gc]) rfl (by kernel_rfl) (by kernel_rfl) (by kernel_rfl) (fun _ _ _ h => h) (Or.inl ⟨by rfl, (by intro w' hSw; obtain ⟨s0, s1, s2, s3⟩ := hSw; go_simp)⟩) (unhide HSV) ?_
          go_simp
          refine wpAnyH_take (i := 14) (oi := _) (v := .pointer (some ⟨w.heap.size + 1, 0, none⟩)) rfl (by kernel_rfl) (by kernel_rfl) (by kernel_rfl) (fun _ _ _ h => h) (Or.inl ⟨by rfl, (by intro w' hSw; obtain ⟨s0, s1, s2, s3⟩ := hSw; go_simp)⟩) (unhide HSV) ?_
          go_simp
          refine wpAnyH_take (i := 15) (oi := _) (v := .pointer (some ⟨w.heap.size + 1, 0, none⟩)) rfl (by kernel_rfl) (by kernel_rfl) (by kernel_rfl) (fun _ _ _ h => h) (Or.inl ⟨by rfl, (by intro w' hSw; obtain ⟨s0, s1, s2, s3⟩ := hSw; go_simp)⟩) (unhide HSV) ?_
          go_simp
          refine wpAnyH_ready (rs := [16]) (by kernel_rfl) (by simp) ?_
          refine AllReadyH.cons (o := _) rfl (fun K hK => ?_) AllReadyH.nil
          go_simp
          rw [unhide hZ]
          refine hK.out _ _ (unhide HSz) (fun _ => ?_)
          clear hK K
          go_simp
          refine wpAnyH_done (by kernel_rfl) ?_ _
          clear HSV HSD HSz b0 b1 b2 bf0 bf1 bf2 zlv
          go_wp2_with fail
          go_ret
          exact ⟨_, _, _, rs, gb, go, gc, rfl, unhide HDD⟩

set_option linter.unusedVariables false
set_option linter.unusedSimpArgs false
theorem MR.mark {R : Type} {en : R → List Value} {sz : Nat} {mk : Nat → R} (hz : ∀ x, (en x).length = sz) {D : Nat → Prop} {w : World} {v : Value} (h : MR en sz mk D w v) :
    ∃ n g o c, v = .slice (some ⟨g, o, none⟩) (n + 16) c ∧ n + 16 ≤ c ∧ c ≤ maxLen ∧ g < w.heap.size ∧ ∀ W : World, W.heap[g]? = w.heap[g]? → ∀ j, j < 16 → ∀ q x, (en (mk j))[q]? = some x → W.cell? ⟨g, o + (n + j) * sz + q, none⟩ = some x := by
  obtain ⟨l, b, o, c, rfl, _, hr⟩ := h
  obtain ⟨_, _, _, e2, m1, m2, m3, _⟩ := hr.full (by omega)
  cases e2
  refine ⟨l.length, b, o, c, rfl, m1, m2, m3, fun W hW j hj q x hx => ?_⟩
  have hat : (l ++ mks mk 16)[l.length + j]? = some (mk j) := by
    rw [List.getElem?_append_right (by omega), show l.length + j - l.length = j by omega]; exact mks_at mk hj
  have hrx := Rx.of_ro hr
  rw [show l.length + 16 = (l ++ mks mk 16).length by rw [List.length_append, mks_length]] at hrx
  obtain ⟨_, _, _, e3, _, _, _, hc⟩ := hrx.elem hz hat
  cases e3
  exact (World.cell?_of_block (a := ⟨b, o + (l.length + j) * sz + q, none⟩) hW).trans (hc q x hx)
section
variable {T : Nat → Nat} {w : World} {p : Nat} {cf cr : Int} {cb : Value} {rv : Nat → Value} {vs : Nat → List Value} {bs : List BkR}
/-- One list among those of a tag. -/
theorem HS.list (h : HS T w p cf cr cb rv vs bs) {t : Nat} (h2 : 2 ≤ t) (h5 : t ≤ 5) : ∃ a c, rv t = .slice a (vs t).length c ∧ (vs t).length ≤ c ∧ c ≤ maxLen ∧
    ∀ (i : Nat), i < (vs t).length → ∃ b o u, a = some ⟨b, o, none⟩ ∧ b < w.heap.size ∧ QT t (fun k => T k = 0) w u ∧ ∀ W : World, W.heap[b]? = w.heap[b]? → W.cell? ⟨b, o + i, none⟩ = some u := by
  obtain ⟨a, c, e, hl, hm⟩ := (h.row t h2 h5).shape
  refine ⟨a, c, e, hl, hm, fun i hi => ?_⟩
  have hu : (vs t)[i]? = some ((vs t)[i]) := List.getElem?_eq_getElem hi
  obtain ⟨b, o, c', e', _, _, hb, hc⟩ := (Rx.of_ro (h.row t h2 h5)).elem zV hu
  rw [e] at e'
  cases e'
  refine ⟨b, o, _, rfl, hb, h.el t h2 h5 _ (List.mem_of_getElem? hu), fun W hW => ?_⟩
  have := (World.cell?_of_block (a := ⟨b, o + i * 1 + 0, none⟩) hW).trans (hc 0 _ rfl)
  rwa [Nat.mul_one, Nat.add_zero] at this
end
set_option maxRecDepth 100000 in
set_option maxHeartbeats 12800000 in
theorem marked_any {w0 w : World} {p : Nat} {fn regs : Int} {bl : List Bk} {T : Nat → Nat} {rv : Nat → Value} {vs : Nat → List Value} {rs : List BkR} {g o c : Nat} (h : HD w0 p fn regs bl T rv vs rs g o c w) :
    Calls Tryd.prog 26 #[.pointer (some ⟨p, 0, none⟩)] w fun e w' => e = .returned (.bool true) ∧ Below w.heap.size w w' := by
  obtain ⟨a2, c2, r2, l2, m2, L2⟩ := h.hs.list (t := 2) (by omega) (by omega)
  obtain ⟨a3, c3, r3, l3, m3, L3⟩ := h.hs.list (t := 3) (by omega) (by omega)
  obtain ⟨a4, c4, r4, l4, m4, L4⟩ := h.hs.list (t := 4) (by omega) (by omega)
  obtain ⟨a5, c5, r5, l5, m5, L5⟩ := h.hs.list (t := 5) (by omega) (by omega)
  obtain ⟨z3, z4, z5, z6, z7, zf, zl⟩ := h.hs.cell
  rw [r2] at z3
  rw [r3] at z4
  rw [r4] at z5
  rw [r5] at z6
  rw [h.r6] at z7
  have HP : Hid (∀ W, Below w.heap.size w W → W.cell? ⟨p, 3, none⟩ = some (.slice a2 (vs 2).length c2) ∧ W.cell? ⟨p, 4, none⟩ = some (.slice a3 (vs 3).length c3) ∧ W.cell? ⟨p, 5, none⟩ = some (.slice a4 (vs 4).length c4) ∧ W.cell? ⟨p, 6, none⟩ = some (.slice a5 (vs 5).length c5) ∧ W.cell? ⟨p, 7, none⟩ = some (.slice (some ⟨g, o, none⟩) (bl.length + 16) c) ∧ p < W.heap.size) := fun W hW =>
    ⟨(hW.cell (p := ⟨p, 3, none⟩) zl).trans z3, (hW.cell (p := ⟨p, 4, none⟩) zl).trans z4, (hW.cell (p := ⟨p, 5, none⟩) zl).trans z5, (hW.cell (p := ⟨p, 6, none⟩) zl).trans z6, (hW.cell (p := ⟨p, 7, none⟩) zl).trans z7, Nat.lt_of_lt_of_le zl hW.size⟩
  have HBR : Hid (MR enBk 3 mkBk (fun _ => True) w (.slice (some ⟨g, o, none⟩) (bl.length + 16) c)) := by
    refine ⟨rs, g, o, c, by rw [h.ln], trivial, ?_⟩
    have q := h.hs.brow
    rw [h.r6, List.length_append, mks_length] at q
    rw [h.ln] at q ⊢
    exact q
  have hn4 := h.c4
  have hn5 := h.c5
  rw [hn4] at HP L4 l4
  rw [hn5] at HP L5 l5
  have HL2 := hide L2
  have HL3 := hide L3
  have HL4 := hide L4
  have HL5 := hide L5
  unfold maxLen at m2 m3 m4 m5
  obtain ⟨N2, hN2⟩ : ∃ N, Hid ((vs 2).length = N) := ⟨_, hide rfl⟩
  obtain ⟨N3, hN3⟩ : ∃ N, Hid ((vs 3).length = N) := ⟨_, hide rfl⟩
  obtain ⟨N5, hN5⟩ : ∃ N, Hid (bl.length = N) := ⟨_, hide rfl⟩
  rw [unhide hN2] at l2 HP HL2
  rw [unhide hN3] at l3 HP HL3
  rw [unhide hN5] at l4 l5 HP HL4 HL5 HBR
  clear L2 L3 L4 L5 z3 z4 z5 z6 z7 zf zl r2 r3 r4 r5 h hn4 hn5
  go_enter Tryd.func26, Tryd.ntmps26
  go_wp2_with fail
  go_loopg [3] N2 (fun gg t3 wr => ∃ (i : Nat), Hid (i + gg = N2) ∧ t3 = .int .i64 (i : Int) ∧ Hid (Below w.heap.size w wr))
  case atStart => exact ⟨0, by unfold Hid; omega, rfl, hide (Below.refl _ _)⟩
  case round =>
    obtain ⟨i, hi, rfl, hw⟩ := hrel
    obtain ⟨z3, z4, z5, z6, z7, zl⟩ := unhide HP _ (unhide hw)
    by_cases hlt : i < N2
    · obtain ⟨b, ob, u, ea, hb, hq, hcu⟩ := unhide HL2 i hlt
      subst ea
      obtain ⟨n, mg, mo, mc, eu, hm1, hm2, hm3, hmk⟩ := MR.mark zO (mk := mkO) (by unfold QT at hq; rw [if_pos rfl] at hq; exact hq)
      subst eu
      have k0 := hcu wr ((unhide hw).block b hb)
      have hs := (unhide hw).size
      have hbw : b < wr.heap.size := by omega
      have i0 : (0 : Int) ≤ (i : Int) := by omega
      have i1 : (i : Int) < (N2 : Int) := by omega
      have HCU := hide hcu
      have HMK := hide hmk
      unfold maxLen at hm2
      obtain ⟨G0, hG0⟩ : ∃ G0 : Nat, Hid (G0 = gk) := ⟨_, hide rfl⟩
      clear hcu hmk hq
      go_wp2_with fail
      clear z3 z4 z5 z6 z7 zl k0 hbw hs
      go_loopg [5] 16 (fun gg t5 wq => ∃ (j : Nat), Hid (j + gg = 16) ∧ t5 = .int .i64 (j : Int) ∧ Hid (Below w.heap.size w wq))
      case atStart => exact ⟨0, by unfold Hid; omega, rfl, hw⟩
      case round =>
        clear hw
        obtain ⟨j, hj, rfl, hw⟩ := hrel
        by_cases hjt : j < 16
        · obtain ⟨z3, z4, z5, z6, z7, zl⟩ := unhide HP _ (unhide hw)
          have k0 := unhide HCU wr ((unhide hw).block b hb)
          have hs := (unhide hw).size
          have hbw : b < wr.heap.size := by omega
          have hgw : mg < wr.heap.size := by omega
          have s0 := unhide HMK wr ((unhide hw).block mg hm3) j hjt 0 _ rfl
          have s1 := unhide HMK wr ((unhide hw).block mg hm3) j hjt 1 _ rfl
          have d1 := neqO0 (mkO j)
          unfold opV at d1
          simp only [mkO, Nat.add_zero] at d1 s0 s1
          have j0 : (0 : Int) ≤ (j : Int) := by omega
          have j1 : (j : Int) < 16 := by omega
          go_wp2_with fail
          clear z3 z4 z5 z6 z7 zl k0 hs hbw hgw s0 s1 d1
          go_roundg (gk - 1)
          case measure => have := unhide hj; omega
          case rel => exact ⟨j + 1, by have := unhide hj; unfold Hid; omega, by go_num, hw⟩
        · have hj16 : j = 16 := by have := unhide hj; omega
          subst hj16
          go_wp2_with fail
          go_roundg (G0 - 1)
          case measure => have h1 := unhide hG0; have h2 := unhide hi; omega
          case rel => exact ⟨i + 1, by have h1 := unhide hG0; have h2 := unhide hi; unfold Hid; omega, by go_num, hw⟩
    · have hiN : i = N2 := by have := unhide hi; omega
      clear hi hiN
      go_wp2_with fail
      clear z3 z4 z5 z6 z7 zl
      go_loopg [6] N3 (fun gg t6 wr => ∃ (i : Nat), Hid (i + gg = N3) ∧ t6 = .int .i64 (i : Int) ∧ Hid (Below w.heap.size w wr))
      case atStart => exact ⟨0, by unfold Hid; omega, rfl, hw⟩
      case round =>
        clear hw hlt
        obtain ⟨i, hi, rfl, hw⟩ := hrel
        obtain ⟨z3, z4, z5, z6, z7, zl⟩ := unhide HP _ (unhide hw)
        by_cases hlt : i < N3
        · obtain ⟨b, ob, u, ea, hb, hq, hcu⟩ := unhide HL3 i hlt
          subst ea
          obtain ⟨n, mg, mo, mc, eu, hm1, hm2, hm3, hmk⟩ := MR.mark zSh (mk := mkSh) (by unfold QT at hq; rw [if_neg (by decide), if_pos rfl] at hq; exact hq)
          subst eu
          have k0 := hcu wr ((unhide hw).block b hb)
          have hs := (unhide hw).size
          have hbw : b < wr.heap.size := by omega
          have i0 : (0 : Int) ≤ (i : Int) := by omega
          have i1 : (i : Int) < (N3 : Int) := by omega
          have HCU := hide hcu
          have HMK := hide hmk
          unfold maxLen at hm2
          obtain ⟨G0, hG0⟩ : ∃ G0 : Nat, Hid (G0 = gk) := ⟨_, hide rfl⟩
          clear hcu hmk hq
          go_wp2_with fail
          clear z3 z4 z5 z6 z7 zl k0 hbw hs
          go_loopg [8] 16 (fun gg t5 wq => ∃ (j : Nat), Hid (j + gg = 16) ∧ t5 = .int .i64 (j : Int) ∧ Hid (Below w.heap.size w wq))
          case atStart => exact ⟨0, by unfold Hid; omega, rfl, hw⟩
          case round =>
            clear hw
            obtain ⟨j, hj, rfl, hw⟩ := hrel
            by_cases hjt : j < 16
            · obtain ⟨z3, z4, z5, z6, z7, zl⟩ := unhide HP _ (unhide hw)
              have k0 := unhide HCU wr ((unhide hw).block b hb)
              have hs := (unhide hw).size
              have hbw : b < wr.heap.size := by omega
              have hgw : mg < wr.heap.size := by omega
              have s0 := unhide HMK wr ((unhide hw).block mg hm3) j hjt 0 _ rfl
              have s1 := unhide HMK wr ((unhide hw).block mg hm3) j hjt 1 _ rfl
              have s2 := unhide HMK wr ((unhide hw).block mg hm3) j hjt 2 _ rfl
              simp only [mkSh, Nat.add_zero] at s0 s1 s2
              have d1 : ((j : Int) != (j : Int)) = false := by simp
              have j0 : (0 : Int) ≤ (j : Int) := by omega
              have j1 : (j : Int) < 16 := by omega
              have HWX := hide (bl_past (unhide hw) (box1n wr (.cells #[.int .i64 (-7), .int .i64 (j : Int), .slice none 0 0] 73)))
              go_wp2_with fail
              clear z3 z4 z5 z6 z7 zl k0 hs hbw hgw s0 s1 s2 d1
              go_roundg (gk - 1)
              case measure => have := unhide hj; omega
              case rel => exact ⟨j + 1, by have := unhide hj; unfold Hid; omega, by go_num, HWX⟩
            · have hj16 : j = 16 := by have := unhide hj; omega
              subst hj16
              go_wp2_with fail
              go_roundg (G0 - 1)
              case measure => have h1 := unhide hG0; have h2 := unhide hi; omega
              case rel => exact ⟨i + 1, by have h1 := unhide hG0; have h2 := unhide hi; unfold Hid; omega, by go_num, hw⟩
        · have hiN : i = N3 := by have := unhide hi; omega
          clear hi hiN
          go_wp2_with fail
          clear z3 z4 z5 z6 z7 zl
          go_loopg [10] N5 (fun gg t10 wr => ∃ (i : Nat), Hid (i + gg = N5) ∧ t10 = .int .i64 (i : Int) ∧ Hid (Below w.heap.size w wr))
          case atStart => exact ⟨0, by unfold Hid; omega, rfl, hw⟩
          case round =>
            clear hw hlt
            obtain ⟨i, hi, rfl, hw⟩ := hrel
            obtain ⟨z3, z4, z5, z6, z7, zl⟩ := unhide HP _ (unhide hw)
            by_cases hlt : i < N5
            · obtain ⟨b, ob, u, ea, hb, hq, hcu⟩ := unhide HL5 i hlt
              subst ea
              obtain ⟨b', ob', u', ea', hb', hq', hcu'⟩ := unhide HL4 i hlt
              subst ea'
              obtain ⟨n, mg, mo, mc, eu, hm1, hm2, hm3, hmk⟩ := MR.mark zIn (mk := mkIn) (by unfold QT at hq; rw [if_neg (by decide), if_neg (by decide), if_neg (by decide)] at hq; exact hq)
              subst eu
              obtain ⟨n', mg', mo', mc', eu', hm1', hm2', hm3', hmk'⟩ := MR.mark zI (mk := mkN) (by unfold QT at hq'; rw [if_neg (by decide), if_neg (by decide), if_pos rfl] at hq'; exact hq')
              subst eu'
              have k0 := hcu wr ((unhide hw).block b hb)
              have k0' := hcu' wr ((unhide hw).block b' hb')
              have hs := (unhide hw).size
              have hbw : b < wr.heap.size := by omega
              have hbw' : b' < wr.heap.size := by omega
              have i0 : (0 : Int) ≤ (i : Int) := by omega
              have i1 : (i : Int) < (N5 : Int) := by omega
              have HCU := hide hcu
              have HMK := hide hmk
              have HCU' := hide hcu'
              have HMK' := hide hmk'
              unfold maxLen at hm2 hm2'
              obtain ⟨G0, hG0⟩ : ∃ G0 : Nat, Hid (G0 = gk) := ⟨_, hide rfl⟩
              clear hcu hmk hq hcu' hmk' hq'
              go_wp2_with fail
              clear z3 z4 z5 z6 z7 zl k0 hbw hs k0' hbw'
              go_loopg [13] 16 (fun gg t5 wq => ∃ (j : Nat), Hid (j + gg = 16) ∧ t5 = .int .i64 (j : Int) ∧ Hid (Below w.heap.size w wq))
              case atStart => exact ⟨0, by unfold Hid; omega, rfl, hw⟩
              case round =>
                clear hw
                obtain ⟨j, hj, rfl, hw⟩ := hrel
                by_cases hjt : j < 16
                · obtain ⟨z3, z4, z5, z6, z7, zl⟩ := unhide HP _ (unhide hw)
                  have k0 := unhide HCU wr ((unhide hw).block b hb)
                  have hs := (unhide hw).size
                  have hbw : b < wr.heap.size := by omega
                  have hgw : mg < wr.heap.size := by omega
                  have hM := unhide HMK wr ((unhide hw).block mg hm3) j hjt
                  have s0 := hM 0 _ rfl
                  have s1 := hM 1 _ rfl
                  have s2 := hM 2 _ rfl
                  have s3 := hM 3 _ rfl
                  have s4 := hM 4 _ rfl
                  have s5 := hM 5 _ rfl
                  have s6 := hM 6 _ rfl
                  have s7 := hM 7 _ rfl
                  simp only [mkIn, Nat.add_zero] at s0 s1 s2 s3 s4 s5 s6 s7
                  have d1 : ((j : Int) != (j : Int)) = false := by simp
                  have d2 : ((-7 - (j : Int)) != (-7 - (j : Int))) = false := by simp
                  have j0 : (0 : Int) ≤ (j : Int) := by omega
                  have j1 : (j : Int) < 16 := by omega
                  have HWX := hide (bl_past (unhide hw) (box1n wr (.cells #[.int .i64 (-7), .int .i64 0, .int .i64 0, .slice none 0 0, .int .i64 0, .int .i64 (j : Int), .int .i64 0, .slice none 0 0] 51)))
                  have k0' := unhide HCU' wr ((unhide hw).block b' hb')
                  have hbx : b' < wr.heap.size := by omega
                  have hgx : mg' < wr.heap.size := by omega
                  have q0 := unhide HMK' wr ((unhide hw).block mg' hm3') j hjt 0 _ rfl
                  simp only [mkN, Nat.add_zero, Nat.mul_one] at q0
                  clear hM
                  go_wp2_with fail
                  clear z3 z4 z5 z6 z7 zl k0 hs hbw hgw s0 s1 s2 s3 s4 s5 s6 s7 d1 d2 k0' hbx hgx q0
                  go_roundg (gk - 1)
                  case measure => have := unhide hj; omega
                  case rel => exact ⟨j + 1, by have := unhide hj; unfold Hid; omega, by go_num, HWX⟩
                · have hj16 : j = 16 := by have := unhide hj; omega
                  subst hj16
                  go_wp2_with fail
                  go_roundg (G0 - 1)
                  case measure => have h1 := unhide hG0; have h2 := unhide hi; omega
                  case rel => exact ⟨i + 1, by have h1 := unhide hG0; have h2 := unhide hi; unfold Hid; omega, by go_num, hw⟩
            · have hiN : i = N5 := by have := unhide hi; omega
              clear hi hiN
              obtain ⟨n, mg, mo, mc, eu, hm1, hm2, hm3, hmk⟩ := (unhide HBR).mark zBk
              have hn5 : n = N5 := by cases eu; rfl
              subst hn5
              cases eu
              have HMK := hide hmk
              unfold maxLen at hm2
              clear hmk
              go_wp2_with fail
              clear z3 z4 z5 z6 z7 zl
              go_loopg [16] 16 (fun gg t5 wq => ∃ (j : Nat), Hid (j + gg = 16) ∧ t5 = .int .i64 (j : Int) ∧ Hid (Below w.heap.size w wq))
              case atStart => exact ⟨0, by unfold Hid; omega, rfl, hw⟩
              case round =>
                clear hw
                obtain ⟨j, hj, rfl, hw⟩ := hrel
                by_cases hjt : j < 16
                · obtain ⟨z3, z4, z5, z6, z7, zl⟩ := unhide HP _ (unhide hw)
                  have hs := (unhide hw).size
                  have hgw : g < wr.heap.size := by omega
                  have hM := unhide HMK wr ((unhide hw).block g hm3) j hjt
                  have s0 := hM 0 _ rfl
                  have s1 := hM 1 _ rfl
                  have s2 := hM 2 _ rfl
                  simp only [mkBk, Nat.add_zero] at s0 s1 s2
                  have d2 : ((-7 - (j : Int)) != (-7 - (j : Int))) = false := by simp
                  have j0 : (0 : Int) ≤ (j : Int) := by omega
                  have j1 : (j : Int) < 16 := by omega
                  have HWX := hide (bl_past (unhide hw) (box1n wr (.cells #[.int .i64 (-7 - (j : Int)), .slice none 0 0, .slice none 0 0] 47)))
                  clear hM
                  go_wp2_with fail
                  clear z3 z4 z5 z6 z7 zl hs hgw s0 s1 s2 d2
                  go_roundg (gk - 1)
                  case measure => have := unhide hj; omega
                  case rel => exact ⟨j + 1, by have := unhide hj; unfold Hid; omega, by go_num, HWX⟩
                · have hj16 : j = 16 := by have := unhide hj; omega
                  subst hj16
                  go_wp2_with fail
                  go_ret
                  exact ⟨rfl, unhide hw⟩

set_option linter.unusedVariables false
set_option linter.unusedSimpArgs false
section
variable {w0 w w' : World} {p : Nat} {fn regs : Int} {bl : List Bk} {T : Nat → Nat} {rv : Nat → Value} {vs : Nat → List Value} {rs : List BkR} {g o c : Nat}
theorem HD.bel (h : HD w0 p fn regs bl T rv vs rs g o c w) (f : Below w.heap.size w w') : HD w0 p fn regs bl (tl T w.heap.size 0) rv vs rs g o c w' :=
  ⟨h.hs.below f 0, h.r6, h.ln, fun j b r hb hr => BkP.mv _ _ _ _ _ _ _ (h.el j b r hb hr) (Fr.of_below (S := fun _ => False) f) (fun k hk e => ⟨fun q => q, by rw [tl_lt _ _ hk]; exact e⟩), bl_past h.bw f, h.c4, h.c5, (by obtain ⟨X, hX, hP⟩ := h.xs; exact ⟨X, hX, hP.mv (Fr.of_below (S := fun _ => False) f) (fun k hk e _ => ⟨fun q => q, by rw [tl_lt _ _ hk]; exact e⟩)⟩), fun k hk => by rw [tl_lt _ _ (Nat.lt_of_lt_of_le hk h.bw.size)]; exact h.tk k hk⟩
/-- The blocks that were handed in can be read. -/
theorem HD.blocks (h : HD w0 p fn regs bl T rv vs rs g o c w) : BksV (fun _ => True) w bl (.slice (some ⟨g, o, none⟩) bl.length c) := by
  have q := h.hs.brow
  rw [h.r6, List.length_append, mks_length, h.ln] at q
  have q2 := q.upto rfl (k := bl.length) (by omega)
  rw [flt_take zBk, List.take_append_of_le_length (by rw [h.ln]; exact Nat.le_refl _), List.take_of_length_le (by rw [h.ln]; exact Nat.le_refl _)] at q2
  exact ⟨rs, h.ln, Rd.of_ro q2 (fun _ _ => trivial), fun i b r hb hr => BkP.mv _ _ _ _ _ _ _ (h.el i b r hb hr) (Fr.refl (fun _ => False) w) (fun k _ _ => ⟨fun q => q, trivial⟩)⟩
end
set_option maxRecDepth 100000 in
set_option maxHeartbeats 6400000 in
theorem keptR_any {w0 w : World} {p : Nat} {fn regs cf cr : Int} {bl : List Bk} {T : Nat → Nat} {rv : Nat → Value} {vs : Nat → List Value} {rs : List BkR} {g o c : Nat} {D : Nat → Prop} {blv : Value} (h : HD w0 p fn regs bl T rv vs rs g o c w) (hl : BksV D w bl blv) :
    Calls Tryd.prog 11 #[.pointer (some ⟨p, 0, none⟩), .agg #[.int .i64 cf, .int .i64 cr, blv]] w fun e w' => e = .returned (.bool true) ∧ Below w.heap.size w w' := by
  obtain ⟨a, acap, rfl, ha1, ha2⟩ := NV.shape hl
  obtain ⟨_, gcap, eg, hg1, hg2⟩ := NV.shape h.blocks
  cases eg
  have hg3 : bl.length + 16 ≤ c := by
    have q := h.hs.brow
    rw [h.r6, List.length_append, mks_length, h.ln] at q
    obtain ⟨_, _, e, q1, _⟩ := q.shape
    cases e
    exact q1
  have hbx := box1n w (.cells #[.int .i64 cf, .int .i64 cr, .slice a bl.length acap] 24)
  have hbk := heap_alloc_new w (.cells #[.int .i64 cf, .int .i64 cr, .slice a bl.length acap] 24)
  have HC11 := hide (fun W (hW : Below (w.alloc (.cells #[.int .i64 cf, .int .i64 cr, .slice a bl.length acap] 24)).heap.size (w.alloc (.cells #[.int .i64 cf, .int .i64 cr, .slice a bl.length acap] 24)) W) => marked_any (h.bel (bl_past hbx hW)))
  have HC12 := hide (fun W (hW : Below (w.alloc (.cells #[.int .i64 cf, .int .i64 cr, .slice a bl.length acap] 24)).heap.size (w.alloc (.cells #[.int .i64 cf, .int .i64 cr, .slice a bl.length acap] 24)) W) => sameBlocks_any (h.bel (bl_past hbx hW)).blocks (BksV.mv.bel hl (bl_past hbx hW)))
  have z7 := h.hs.cell.2.2.2.2.1
  have zl := h.hs.lt
  rw [h.r6] at z7
  have hS0 : ∀ W, Below (w.alloc (.cells #[.int .i64 cf, .int .i64 cr, .slice a bl.length acap] 24)).heap.size (w.alloc (.cells #[.int .i64 cf, .int .i64 cr, .slice a bl.length acap] 24)) W → W.cell? ⟨p, 7, none⟩ = some (.slice (some ⟨g, o, none⟩) (bl.length + 16) c) ∧ W.cell? ⟨w.heap.size, 2, none⟩ = some (.slice a bl.length acap) := fun W hW =>
    ⟨((bl_past hbx hW).cell (p := ⟨p, 7, none⟩) zl).trans z7, (blk_cells ((hW.block w.heap.size (by simp)).trans hbk)).1 2⟩
  have HS0 := hide hS0
  have HBX := hide hbx
  obtain ⟨L, hL⟩ : ∃ L, Hid (bl.length = L) := ⟨_, hide rfl⟩
  rw [unhide hL] at ha1 hg1 hg3 HC11 HC12 HS0 HBX ⊢
  unfold maxLen at ha2 hg2
  have n0 : (0 : Int) ≤ (L : Int) := by omega
  have n1 : (L : Int) ≤ (c : Int) := by omega
  clear h hl hbx hbk z7 hS0 zl
  go_enter Tryd.func11, Tryd.ntmps11
  go_wp2_with fail
  refine wp_region_held_drew (S := (fun W => W.cell? ⟨p, 7, none⟩ = some (.slice (some ⟨g, o, none⟩) (L + 16) c) ∧ W.cell? ⟨w.heap.size, 2, none⟩ = some (.slice a L acap))) (by kernel_rfl) (unhide HS0 _ (bl_drew _)) (fun hHeld => ?_)
  clear hHeld
  refine wpAnyH_take (i := 0) (oi := _) (v := .pointer (some ⟨p, 0, none⟩)) rfl (by kernel_rfl) (by kernel_rfl) (by kernel_rfl) (fun _ _ _ h => h) (Or.inl ⟨by rfl, (by intro w' hSw; obtain ⟨s0, s1⟩ := hSw; go_simp)⟩) (unhide HS0 _ (bl_drew _)) ?_
  go_simp
  refine wpAnyH_ready (rs := [1]) (by kernel_rfl) (by simp) ?_
  refine AllReadyH.cons (o := _) rfl (fun K hK => ?_) AllReadyH.nil
  go_simp
  refine (unhide HC11 _ (bl_drew _)).mono ?_
  rintro e w3 ⟨rfl, b3⟩
  have HB3 := hide (bl_past (bl_drew _) b3)
  clear b3
  go_simp
  refine hK.out _ _ (unhide HS0 _ (unhide HB3)) (fun _ => ?_)
  clear hK K
  go_simp
  refine wpAnyH_take (i := 2) (oi := _) (v := .bool true) rfl (by kernel_rfl) (by kernel_rfl) (by kernel_rfl) (fun _ _ _ h => h) (Or.inl ⟨by rfl, (by intro w' hSw; obtain ⟨s0, s1⟩ := hSw; go_simp)⟩) (unhide HS0 _ (unhide HB3)) ?_
  go_simp
  refine wpAnyH_take (i := 3) (oi := _) (v := .pointer (some ⟨p, 0, none⟩)) rfl (by kernel_rfl) (by kernel_rfl) (by kernel_rfl) (fun _ _ _ h => h) (Or.inl ⟨by rfl, (by intro w' hSw; obtain ⟨s0, s1⟩ := hSw; go_simp)⟩) (unhide HS0 _ (unhide HB3)) ?_
  go_simp
  refine wpAnyH_take (i := 4) (oi := _) (v := .pointer (some ⟨p, 0, none⟩)) rfl (by kernel_rfl) (by kernel_rfl) (by kernel_rfl) (fun _ _ _ h => h) (Or.inl ⟨by rfl, (by intro w' hSw; obtain ⟨s0, s1⟩ := hSw; go_simp)⟩) (unhide HS0 _ (unhide HB3)) ?_
  go_simp
  refine wpAnyH_take (i := 5) (oi := _) (v := .pointer (some ⟨p, 7, none⟩)) rfl (by kernel_rfl) (by kernel_rfl) (by kernel_rfl) (fun _ _ _ h => h) (Or.inl ⟨by rfl, (by intro w' hSw; obtain ⟨s0, s1⟩ := hSw; go_simp)⟩) (unhide HS0 _ (unhide HB3)) ?_
  go_simp
  refine wpAnyH_take (i := 6) (oi := _) (v := .slice (some ⟨g, o, none⟩) (L + 16) c) rfl (by kernel_rfl) (by kernel_rfl) (by kernel_rfl) (fun _ _ _ h => h) (Or.inl ⟨by rfl, (by intro w' hSw; obtain ⟨s0, s1⟩ := hSw; go_simp)⟩) (unhide HS0 _ (unhide HB3)) ?_
  go_simp
  refine wpAnyH_take (i := 7) (oi := _) (v := .pointer (some ⟨w.heap.size, 2, none⟩)) rfl (by kernel_rfl) (by kernel_rfl) (by kernel_rfl) (fun _ _ _ h => h) (Or.inl ⟨by rfl, (by intro w' hSw; obtain ⟨s0, s1⟩ := hSw; go_simp)⟩) (unhide HS0 _ (unhide HB3)) ?_
  go_simp
  refine wpAnyH_take (i := 8) (oi := _) (v := .slice a L acap) rfl (by kernel_rfl) (by kernel_rfl) (by kernel_rfl) (fun _ _ _ h => h) (Or.inl ⟨by rfl, (by intro w' hSw; obtain ⟨s0, s1⟩ := hSw; go_simp)⟩) (unhide HS0 _ (unhide HB3)) ?_
  go_simp
  refine wpAnyH_take (i := 9) (oi := _) (v := .int .i64 (L : Int)) rfl (by kernel_rfl) (by kernel_rfl) (by kernel_rfl) (fun _ _ _ h => h) (Or.inl ⟨by rfl, (by intro w' hSw; obtain ⟨s0, s1⟩ := hSw; go_simp)⟩) (unhide HS0 _ (unhide HB3)) ?_
  go_simp
  refine wpAnyH_take (i := 10) (oi := _) (v := .slice (some ⟨g, o, none⟩) L c) rfl (by kernel_rfl) (by kernel_rfl) (by kernel_rfl) (fun _ _ _ h => h) (Or.inl ⟨by rfl, (by intro w' hSw; obtain ⟨s0, s1⟩ := hSw; go_simp)⟩) (unhide HS0 _ (unhide HB3)) ?_
  go_simp
  refine wpAnyH_take (i := 11) (oi := _) (v := .pointer (some ⟨w.heap.size, 2, none⟩)) rfl (by kernel_rfl) (by kernel_rfl) (by kernel_rfl) (fun _ _ _ h => h) (Or.inl ⟨by rfl, (by intro w' hSw; obtain ⟨s0, s1⟩ := hSw; go_simp)⟩) (unhide HS0 _ (unhide HB3)) ?_
  go_simp
  refine wpAnyH_take (i := 12) (oi := _) (v := .slice a L acap) rfl (by kernel_rfl) (by kernel_rfl) (by kernel_rfl) (fun _ _ _ h => h) (Or.inl ⟨by rfl, (by intro w' hSw; obtain ⟨s0, s1⟩ := hSw; go_simp)⟩) (unhide HS0 _ (unhide HB3)) ?_
  go_simp
  refine wpAnyH_ready (rs := [13]) (by kernel_rfl) (by simp) ?_
  refine AllReadyH.cons (o := _) rfl (fun K hK => ?_) AllReadyH.nil
  go_simp
  refine (unhide HC12 _ (unhide HB3)).mono ?_
  rintro e w4 ⟨rfl, b4⟩
  have HB4 := hide (bl_past (unhide HB3) b4)
  clear b4
  go_simp
  refine hK.out _ _ (unhide HS0 _ (unhide HB4)) (fun _ => ?_)
  clear hK K
  go_simp
  refine wpAnyH_take (i := 14) (oi := _) (v := .bool true) rfl (by kernel_rfl) (by kernel_rfl) (by kernel_rfl) (fun _ _ _ h => h) (Or.inl ⟨by rfl, (by intro w' hSw; obtain ⟨s0, s1⟩ := hSw; go_simp)⟩) (unhide HS0 _ (unhide HB4)) ?_
  go_simp
  refine wpAnyH_take (i := 15) (oi := _) (v := .bool true) rfl (by kernel_rfl) (by kernel_rfl) (by kernel_rfl) (fun _ _ _ h => h) (Or.inl ⟨by rfl, (by intro w' hSw; obtain ⟨s0, s1⟩ := hSw; go_simp)⟩) (unhide HS0 _ (unhide HB4)) ?_
  go_simp
  refine wpAnyH_done (by kernel_rfl) ?_ _
  go_wp2_with fail
  go_ret
  exact ⟨rfl, bl_past (unhide HBX) (unhide HB4)⟩

set_option linter.unusedVariables false
set_option linter.unusedSimpArgs false
theorem flt_TB' (X : List TB) : flt enTB X = flt enBk (X.map Prod.fst) := by
  induction X with
  | nil => rfl
  | cons p r ih => simp only [flt, List.flatMap_cons, List.map_cons] at ih ⊢; rw [ih]; rfl
theorem HD.own {w0 w : World} {p : Nat} {fn regs : Int} {bl : List Bk} {T : Nat → Nat} {rv : Nat → Value} {vs : Nat → List Value} {rs : List BkR} {g o c : Nat} (h : HD w0 p fn regs bl T rv vs rs g o c w) :
    ∃ X, OW enTB 3 (PB w0.heap.size) blB (fun k => w0.heap.size ≤ k) w (.slice (some ⟨g, o, none⟩) bl.length c) bl X := by
  obtain ⟨X, hX, hP⟩ := h.xs
  have hXl : X.length = bl.length + 16 := by
    have := congrArg List.length hX
    rw [List.length_map, List.length_append, mks_length, h.ln] at this
    exact this
  have q := h.hs.brow
  rw [h.r6, ← hX, ← flt_TB', List.length_map, hXl] at q
  have hg6 : T g = 6 := h.hs.tag 6 (by omega) (by omega) g (by rw [h.r6]; rfl)
  have hg : w0.heap.size ≤ g := by
    by_cases e : g < w0.heap.size
    · have := h.tk g e; omega
    · omega
  have q2 := q.upto rfl (k := bl.length) (by omega)
  rw [flt_take zTB] at q2
  have hP2 := hP.take bl.length
  have hl : (X.take bl.length).length = bl.length := by rw [List.length_take]; omega
  refine ⟨X.take bl.length, hl, q2, fun k hk => by cases hk; exact hg, fun i u x hu hx => hP2.el i u x hu hx, fun i x k hx hk => ?_, hP2.ap⟩
  have h1 := hP2.bt x k (List.mem_of_getElem? hx) hk
  refine ⟨by have := h1.2.1; show w0.heap.size ≤ k; omega, h1.2.2, fun e => ?_⟩
  have hk' : g = k := by cases e; rfl
  subst hk'
  have h7 := h1.1
  rw [hg6] at h7
  cases h7

set_option linter.unusedVariables false
set_option linter.unusedSimpArgs false
def toI (l : List Nat) : List Int := l.map (fun n : Nat => (n : Int))
theorem toI_len (l : List Nat) : (toI l).length = l.length := by unfold toI; rw [List.length_map]
theorem flt_toI (l : List Nat) : flt enN l = flt enI (toI l) := by
  unfold toI
  induction l with
  | nil => rfl
  | cons p r ih => simp only [flt, List.flatMap_cons, List.map_cons] at ih ⊢; rw [ih]; rfl
theorem sameN_yes {w : World} {av bv : Value} {l : List Nat} (ha : Ro w 1 av l.length (flt enN l)) (hb : Ro w 1 bv l.length (flt enN l)) (hN : l.length ≤ 8796093021952) :
    Calls Tryd.prog 10 #[av, bv] w fun e w' => e = .returned (.bool true) ∧ Below w.heap.size w w' := by
  refine sameI_yes (l := toI l) ?_ ?_ (by rw [toI_len]; exact hN)
  · rw [toI_len, ← flt_toI]; exact Rx.of_ro ha
  · rw [toI_len, ← flt_toI]; exact Rx.of_ro hb
/-- What stands while the law goes on. -/
structure AfS (w : World) (fn regs : Int) (bl : List Bk) (iv : Value) (wv : Value) (wl : List Nat) (w2 : World) (P : Nat) (rv : Nat → Value) (vs : Nat → List Value) (rs : List BkR) (g o cg L : Nat) (V : World) : Prop where
  bw : Below w.heap.size w V
  bx : V.heap[w.heap.size]? = some (.cells #[.int .i64 fn, .int .i64 regs, iv] 24)
  i : BksV (fun k => k < w.heap.size) V bl iv
  wr : Ro V 1 wv wl.length (flt enN wl)
  hg : BksV (fun _ => True) V bl (.slice (some ⟨g, o, none⟩) L cg)
  tt : TT V
  hd : ∃ T, HD w2 P fn regs bl T rv vs rs g o cg V
section
variable {w : World} {fn regs : Int} {bl : List Bk} {iv wv : Value} {wl : List Nat} {w2 : World} {P : Nat} {rv : Nat → Value} {vs : Nat → List Value} {rs : List BkR} {g o cg L : Nat} {V V' : World}
theorem AfS.on (h : AfS w fn regs bl iv wv wl w2 P rv vs rs g o cg L V) (f : Below V.heap.size V V') : AfS w fn regs bl iv wv wl w2 P rv vs rs g o cg L V' :=
  ⟨bl_past h.bw f, (f.block _ (Array.getElem?_eq_some_iff.1 h.bx).1).trans h.bx, BksV.mv.bel h.i f, h.wr.fr (Fr.of_below (S := fun _ => False) f) (fun _ _ e => e), BksV.mv.bel h.hg f, h.tt.below h.tt.1 f, by obtain ⟨T, q⟩ := h.hd; exact ⟨_, q.bel f⟩⟩
theorem AfS.box (h : AfS w fn regs bl iv wv wl w2 P rv vs rs g o cg L V) : w.heap.size < V.heap.size ∧ V.cell? ⟨w.heap.size, 0, none⟩ = some (.int .i64 fn) ∧ V.cell? ⟨w.heap.size, 1, none⟩ = some (.int .i64 regs) ∧ V.cell? ⟨w.heap.size, 2, none⟩ = some iv := by
  obtain ⟨q1, _, q3⟩ := blk_cells h.bx
  exact ⟨q3, q1 0, q1 1, q1 2⟩
theorem AfS.hand (h : AfS w fn regs bl iv wv wl w2 P rv vs rs g o cg L V) (hL : bl.length = L) : P < V.heap.size ∧ V.cell? ⟨P, 0, none⟩ = some (.int .i64 fn) ∧ V.cell? ⟨P, 1, none⟩ = some (.int .i64 regs) ∧ V.cell? ⟨P, 2, none⟩ = some (.slice (some ⟨g, o, none⟩) L cg) := by
  obtain ⟨T, q⟩ := h.hd
  obtain ⟨q1, _, q3⟩ := blk_cells q.hs.box
  exact ⟨q3, q1 0, q1 1, by rw [q1, ← hL]; rfl⟩
end
theorem NR.lt {X1 X : World} {v : Value} {l : List Nat} (h : NR X1 v l X) {k : Nat} (hk : v.ownBlock = some k) : k < X.heap.size := h.row.lt k hk
theorem NR.row2 {X1 X : World} {v : Value} {l : List Nat} (h : NR X1 v l X) : ∃ Q : List Int, Q.length = l.length ∧ Ro X 1 v l.length (flt enI Q) := ⟨toI l, toI_len l, by rw [← flt_toI]; exact h.row⟩
/-- Three values by number. -/
def tri (a b c : Value) (k : Nat) : Value := if k = 0 then a else if k = 1 then b else c
def triN (a b c : Nat) (k : Nat) : Nat := if k = 0 then a else if k = 1 then b else c
set_option maxRecDepth 100000 in
set_option maxHeartbeats 25600000 in
theorem afterLaw {w : World} {fn regs : Int} {bl : List Bk} {v : Value} (h : BksV (fun k => k < w.heap.size) w bl v) (hO : ∀ b ∈ bl, OkB b) (hN : bl.length ≤ 1048576) (hW : bkW bl ≤ 1048576) (hT : TT w) (b i ob oi : Int) :
    Calls Tryd.prog 3 #[.agg #[.int .i64 fn, .int .i64 regs, v], .int .i64 b, .int .i64 i, .int .i64 ob, .int .i64 oi] w fun e w' => e = .returned (.bool true) ∧ Below w.heap.size w w' := by
  obtain ⟨a, c, rfl, ha1, ha2⟩ := NV.shape h
  obtain ⟨L, hL⟩ : ∃ L, Hid (bl.length = L) := ⟨_, hide rfl⟩
  rw [unhide hL] at h hN ha1 ⊢
  have HO := hide hO
  have HOL : Hid (∀ b ∈ bl, OkL b) := fun b hb => (hO b hb).l
  have HWB := hide hW
  obtain ⟨W, hW0⟩ : ∃ W0, Hid (w.alloc (.cells #[.int .i64 fn, .int .i64 regs, .slice a L c] 24) = W0) := ⟨_, hide rfl⟩
  have HWb : Hid (Below w.heap.size w W) := by rw [← unhide hW0]; exact box1n w _
  have hbx := heap_alloc_new w (.cells #[.int .i64 fn, .int .i64 regs, .slice a L c] 24)
  rw [unhide hW0] at hbx
  have HI := hide (BksV.mv.bel h (unhide HWb))
  have HT := hide (hT.below hT.1 (unhide HWb))
  have hW0' := unhide hW0
  obtain ⟨WL, hWL⟩ : ∃ WL, Hid (aft bl b i = WL) := ⟨_, hide rfl⟩
  obtain ⟨OL, hOL⟩ : ∃ OL, Hid (aft bl ob oi = OL) := ⟨_, hide rfl⟩
  have hwl : WL.length ≤ 512 := by rw [← unhide hWL]; exact aft_len _ _ _
  have hol : OL.length ≤ 512 := by rw [← unhide hOL]; exact aft_len _ _ _
  have HC7 := hide (rafter_any (fn := fn) (regs := regs) (unhide HI) (by rw [unhide hL]; exact hN) (unhide HOL) b i)
  rw [unhide hWL] at HC7
  obtain ⟨WN, hWN⟩ : ∃ z, Hid (WL.length = z) := ⟨_, hide rfl⟩
  unfold maxLen at ha2
  have HBX := hide hbx
  have x0 := (blk_cells hbx).1 0
  have x1 := (blk_cells hbx).1 1
  have x2 := (blk_cells hbx).1 2
  have xl := (blk_cells hbx).2.2
  simp at x0 x1 x2
  clear h hO hW hT hbx
  go_enter Tryd.func3, Tryd.ntmps3
  go_wp2_with fail
  refine (unhide HC7).mono ?_
  rintro e W2 ⟨wa, wc, rfl, h2⟩
  have HB2 := hide h2.bel
  have HR2 := hide h2.row
  have HBX2 : Hid (W2.heap[w.heap.size]? = _) := hide ((h2.bel.block _ xl).trans (unhide HBX))
  have HI2 := hide (BksV.mv.bel (unhide HI) h2.bel)
  have HT2 := hide ((unhide HT).below (unhide HT).1 h2.bel)
  have HC8 := hide (handCode_any (fn := fn) (regs := regs) (w := W2) (BksV.lt (unhide HI2) _ (Nat.le_refl _)) (by rw [unhide hL]; omega) (fun b hb => by
    obtain ⟨q1, q2, q3, q4⟩ := unhide HO b hb
    exact ⟨by omega, by omega, fun x hx => ⟨by have := (q4 x hx).1; omega, by have := (q4 x hx).2.1; omega, fun s hs => by have := (q4 x hx).2.2 s hs; omega⟩⟩) (by have := unhide HWB; omega) (by have := unhide HWB; have := bkI_W bl; omega))
  clear x0 x1 x2 xl hW0' hW0 HC7 h2
  have x0 := (blk_cells (unhide HBX2)).1 0
  have x1 := (blk_cells (unhide HBX2)).1 1
  have x2 := (blk_cells (unhide HBX2)).1 2
  have xl := (blk_cells (unhide HBX2)).2.2
  simp at x0 x1 x2
  rw [unhide hWN]
  go_wp2_with fail
  refine (unhide HC8).mono ?_
  rintro e W4 ⟨TG, rv, vs, rs, g, o, cg, rfl, hD⟩
  obtain ⟨P, hP⟩ : ∃ P, Hid (W2.heap.size + 1 = P) := ⟨_, hide rfl⟩
  rw [unhide hP] at hD ⊢
  have hgb := hD.blocks
  have hgc : bl.length ≤ cg := by obtain ⟨_, _, e, q, _⟩ := NV.shape hgb; cases e; exact q
  have hgm : cg ≤ maxLen := by obtain ⟨_, _, e, _, q⟩ := NV.shape hgb; cases e; exact q
  rw [unhide hL] at hgc hgb
  unfold maxLen at hgm
  have HS4 : Hid (AfS w fn regs bl (.slice a L c) (.slice wa WN wc) WL W2 P rv vs rs g o cg L W4) := by
    have q : AfS w fn regs bl (.slice a L c) (.slice wa WL.length wc) WL W2 P rv vs rs g o cg L W4 := ⟨bl_past (bl_past (unhide HWb) (unhide HB2)) hD.bw, (hD.bw.block _ xl).trans (unhide HBX2), BksV.mv.bel (unhide HI2) hD.bw, (unhide HR2).fr (Fr.of_below (S := fun _ => False) hD.bw) (fun _ _ e => e), hgb, (unhide HT2).below (unhide HT2).1 hD.bw, ⟨TG, hD⟩⟩
    rw [unhide hWN] at q
    exact q
  have HAF : Hid (∀ V, AfS w fn regs bl (.slice a L c) (.slice wa WN wc) WL W2 P rv vs rs g o cg L V → ∀ b i, Calls Tryd.prog 9 #[.agg #[.int .i64 fn, .int .i64 regs, .slice (some ⟨g, o, none⟩) L cg], .int .i64 b, .int .i64 i] V (NP V (aft bl b i))) := fun V hV b i => after_any hV.hg (by rw [unhide hL]; exact hN) (unhide HOL) hV.tt b i
  clear x0 x1 x2 xl HC8 hgb hD HBX HBX2 HI HI2 HT HT2 HR2
  obtain ⟨yl, y0, y1, y2⟩ := (unhide HS4).hand (unhide hL)
  go_wp2_with fail
  clear yl y0 y1 y2
  refine (unhide HAF _ (unhide HS4) b i).mono ?_
  rintro e W5 ⟨aa, ac, rfl, h5⟩
  rw [unhide hWL] at h5 ⊢
  have HS5 := hide ((unhide HS4).on h5.bel)
  have HA5 := hide h5
  clear h5
  rw [unhide hWN] at HA5 ⊢
  obtain ⟨yl, y0, y1, y2⟩ := (unhide HS5).hand (unhide hL)
  go_wp2_with fail
  clear yl y0 y1 y2
  refine (unhide HAF _ (unhide HS5) ob oi).mono ?_
  rintro e W6 ⟨oa, oc, rfl, h6⟩
  obtain ⟨ON, hON⟩ : ∃ z, Hid (OL.length = z) := ⟨_, hide rfl⟩
  rw [unhide hOL, unhide hON] at h6 ⊢
  have HS6 := hide ((unhide HS5).on h6.bel)
  have HA6 := hide ((unhide HA5).on h6.bel)
  have HO6 := hide h6
  clear h6
  obtain ⟨yl, y0, y1, y2⟩ := (unhide HS6).hand (unhide hL)
  go_wp2_with fail
  clear yl y0 y1 y2
  refine (unhide HAF _ (unhide HS6) b i).mono ?_
  rintro e W7 ⟨ba, bc, rfl, h7⟩
  rw [unhide hWL, unhide hWN] at h7 ⊢
  have HS7 := hide ((unhide HS6).on h7.bel)
  have HA7 := hide ((unhide HA6).on h7.bel)
  have HO7 := hide ((unhide HO6).on h7.bel)
  have HB7 := hide h7
  clear h7
  have HSN : Hid (∀ V x xc, AfS w fn regs bl (.slice a L c) (.slice wa WN wc) WL W2 P rv vs rs g o cg L V → Ro V 1 (.slice x WN xc) WN (flt enN WL) → Calls Tryd.prog 10 #[.slice x WN xc, .slice wa WN wc] V fun e w' => e = .returned (.bool true) ∧ Below V.heap.size V w') := fun V x xc hV hx => by
    refine sameN_yes (l := WL) ?_ hV.wr (by omega)
    rw [unhide hWN]; exact hx
  have HAa : Hid (∀ k, (Value.slice aa WN ac).ownBlock = some k → W4.heap.size ≤ k ∧ k < W5.heap.size) := fun k hk => ⟨(unhide HA5).own k hk, (unhide HA5).lt hk⟩
  have HOo : Hid (∀ k, (Value.slice oa ON oc).ownBlock = some k → W5.heap.size ≤ k ∧ k < W6.heap.size) := fun k hk => ⟨(unhide HO6).own k hk, (unhide HO6).lt hk⟩
  have HBb : Hid (∀ k, (Value.slice ba WN bc).ownBlock = some k → W6.heap.size ≤ k ∧ k < W7.heap.size) := fun k hk => ⟨(unhide HB7).own k hk, (unhide HB7).lt hk⟩
  have HZ : Hid (W4.heap.size ≤ W5.heap.size ∧ W5.heap.size ≤ W6.heap.size ∧ W6.heap.size ≤ W7.heap.size) := ⟨(unhide HA5).bel.size, (unhide HO6).bel.size, (unhide HB7).bel.size⟩
  go_wp2_with fail
  refine (unhide HSN _ aa ac (unhide HS7) (by have q := (unhide HA7).row; rw [unhide hWN] at q; exact q)).mono ?_
  rintro e W8 ⟨rfl, b8⟩
  have HS8 := hide ((unhide HS7).on b8)
  have HA8 := hide ((unhide HA7).on b8)
  have HO8 := hide ((unhide HO7).on b8)
  have HB8 := hide ((unhide HB7).on b8)
  clear b8
  go_wp2_with fail
  refine (unhide HSN _ ba bc (unhide HS8) (by have q := (unhide HB8).row; rw [unhide hWN] at q; exact q)).mono ?_
  rintro e W9 ⟨rfl, b9⟩
  have HS9 := hide ((unhide HS8).on b9)
  have HA9 := hide ((unhide HA8).on b9)
  have HO9 := hide ((unhide HO8).on b9)
  have HB9 := hide ((unhide HB8).on b9)
  clear b9
  obtain ⟨xl, x0, x1, x2⟩ := (unhide HS9).box
  have HKP : Hid (Calls Tryd.prog 11 #[.pointer (some ⟨P, 0, none⟩), .agg #[.int .i64 fn, .int .i64 regs, .slice a L c]] W9 fun e w' => e = .returned (.bool true) ∧ Below W9.heap.size W9 w') := by
    obtain ⟨T, q⟩ := (unhide HS9).hd
    exact keptR_any q (unhide HS9).i
  go_wp2_with fail
  clear xl x0 x1 x2
  refine (unhide HKP).mono ?_
  rintro e W10 ⟨rfl, b10⟩
  have HS10 := hide ((unhide HS9).on b10)
  have HA10 := hide ((unhide HA9).on b10)
  have HO10 := hide ((unhide HO9).on b10)
  have HB10 := hide ((unhide HB9).on b10)
  clear b10
  obtain ⟨xl, x0, x1, x2⟩ := (unhide HS10).box
  have HRA := hide (rafter_any (fn := fn) (regs := regs) (unhide HS10).i (by rw [unhide hL]; exact hN) (unhide HOL) ob oi)
  go_wp2_with fail
  clear xl x0 x1 x2
  refine (unhide HRA).mono ?_
  rintro e W11 ⟨ra, rc, rfl, h11⟩
  rw [unhide hOL, unhide hON] at h11 ⊢
  have HS11 := hide ((unhide HS10).on h11.bel)
  have HA11 := hide ((unhide HA10).on h11.bel)
  have HO11 := hide ((unhide HO10).on h11.bel)
  have HB11 := hide ((unhide HB10).on h11.bel)
  have HSO : Hid (Calls Tryd.prog 10 #[.slice oa ON oc, .slice ra ON rc] W11 fun e w' => e = .returned (.bool true) ∧ Below W11.heap.size W11 w') := by
    refine sameN_yes (l := OL) ?_ ?_ (by omega)
    · exact (unhide HO11).row
    · exact h11.row
  clear h11
  go_wp2_with fail
  refine (unhide HSO).mono ?_
  rintro e W12 ⟨rfl, b12⟩
  have HS12 := hide ((unhide HS11).on b12)
  have HA12 := hide ((unhide HA11).on b12)
  have HO12 := hide ((unhide HO11).on b12)
  have HB12 := hide ((unhide HB11).on b12)
  clear b12
  obtain ⟨W13, hW13⟩ : ∃ W13, Hid (W12.alloc (.cells #[.slice aa WN ac, .slice oa ON oc, .slice ba WN bc] 25) = W13) := ⟨_, hide rfl⟩
  have b13 : Below W12.heap.size W12 W13 := by rw [← unhide hW13]; exact box1n W12 _
  have hn13 := heap_alloc_new W12 (.cells #[.slice aa WN ac, .slice oa ON oc, .slice ba WN bc] 25)
  rw [unhide hW13] at hn13
  have hW13' := unhide hW13
  have HAP : Hid (Calls Tryd.prog 12 #[.slice (some ⟨W12.heap.size, 0, none⟩) 3 3] W13 fun e w' => e = .returned (.bool true) ∧ Fr (SV 3 (tri (.slice aa WN ac) (.slice oa ON oc) (.slice ba WN bc))) W13 w') := by
    refine apartI 3 W13 W12.heap.size 0 3 (tri (.slice aa WN ac) (.slice oa ON oc) (.slice ba WN bc)) (triN WN ON WN) ?_
    obtain ⟨q1, _, q3⟩ := blk_cells hn13
    have z := unhide HZ
    refine ⟨fun k hk => ?_, fun k hk => ?_, fun k q hk e => ?_, fun j j' q hj hj' hne e e' => ?_, fun k => ?_, by omega⟩
    · rw [Nat.zero_add, q1]
      match k, hk with
      | 0, _ => rfl
      | 1, _ => rfl
      | 2, _ => rfl
    · match k, hk with
      | 0, _ => have q := ((unhide HA12).on b13).row2; rw [unhide hWN] at q; exact q
      | 1, _ => have q := ((unhide HO12).on b13).row2; rw [unhide hON] at q; exact q
      | 2, _ => have q := ((unhide HB12).on b13).row2; rw [unhide hWN] at q; exact q
    · match k, hk with
      | 0, _ => have := (unhide HA12).lt e; omega
      | 1, _ => have := (unhide HO12).lt e; omega
      | 2, _ => have := (unhide HB12).lt e; omega
    · match j, hj, j', hj' with
      | 0, _, 0, _ => exact hne rfl
      | 1, _, 1, _ => exact hne rfl
      | 2, _, 2, _ => exact hne rfl
      | 0, _, 1, _ => have h1 := unhide HAa q e; have h2 := unhide HOo q e'; omega
      | 0, _, 2, _ => have h1 := unhide HAa q e; have h2 := unhide HBb q e'; omega
      | 1, _, 0, _ => have h1 := unhide HAa q e'; have h2 := unhide HOo q e; omega
      | 1, _, 2, _ => have h1 := unhide HOo q e; have h2 := unhide HBb q e'; omega
      | 2, _, 0, _ => have h1 := unhide HAa q e'; have h2 := unhide HBb q e; omega
      | 2, _, 1, _ => have h1 := unhide HOo q e'; have h2 := unhide HBb q e; omega
    · have h1 : WN ≤ 512 := by rw [← unhide hWN]; exact hwl
      have h2 : ON ≤ 512 := by rw [← unhide hON]; exact hol
      unfold triN
      split
      · omega
      · split <;> omega
  have HZ13 : Hid (Below W4.heap.size W4 W13) := ((unhide HA12).on b13).bel
  go_wp2_with fail
  clear hW13' hW13 hn13
  refine (unhide HAP).mono ?_
  rintro e W14 ⟨rfl, f14⟩
  have b14 : Below W4.heap.size W4 W14 := (unhide HZ13).trans (f14.below (unhide HZ13).size (fun k hk hs => by
    obtain ⟨j, hj, e⟩ := hs
    have z := unhide HZ
    match j, hj with
    | 0, _ => have := unhide HAa k e; omega
    | 1, _ => have := unhide HOo k e; omega
    | 2, _ => have := unhide HBb k e; omega))
  have HS14 := hide ((unhide HS4).on b14)
  clear b14 f14
  obtain ⟨xl, x0, x1, x2⟩ := (unhide HS14).box
  have HFA := hide (after_any (fn := fn) (regs := regs) (unhide HS14).i (by rw [unhide hL]; exact hN) (unhide HOL) (unhide HS14).tt b i)
  go_wp2_with fail
  clear xl x0 x1 x2
  refine (unhide HFA).mono ?_
  rintro e W15 ⟨ya, yc, rfl, h15⟩
  rw [unhide hWL, unhide hWN] at h15 ⊢
  have HS15 := hide ((unhide HS14).on h15.bel)
  have HSY := hide (unhide HSN _ ya yc (unhide HS15) (by have q := h15.row; rw [unhide hWN] at q; exact q))
  clear h15
  go_wp2_with fail
  refine (unhide HSY).mono ?_
  rintro e W16 ⟨rfl, b16⟩
  have HS16 := hide ((unhide HS15).on b16)
  clear b16
  go_wp2_with fail
  go_ret
  exact ⟨rfl, (unhide HS16).bw⟩
end Go.Proofs.YtpbdmbmafjkinaaDoor
