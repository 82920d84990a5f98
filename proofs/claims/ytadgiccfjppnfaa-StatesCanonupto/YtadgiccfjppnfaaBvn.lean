/-
  The document's book: a value that names an object.
-/
import Derived.Test.YtadgiccfjppnfaaBvl
namespace Go.Proofs.Ytadgiccfjppnfaa
open Go.RowKit
set_option linter.unusedVariables false
set_option linter.unusedSimpArgs false
set_option maxRecDepth 100000 in
set_option maxHeartbeats 3200000 in
theorem bvalue_new {B bb nt no : Nat} {c : Nat → Value} {w : World} {ts os : List Nat} {O : List Ob} (h : BkM B bb nt no c w ts os) {ta oa : Option Addr} {tc oc : Nat} (h0 : c 0 = .slice ta nt tc) (h1 : c 1 = .slice oa no oc) (hO : OsV w (.slice oa no oc) O) (hT : ts.length ≤ 1048576) (hL : os.length ≤ 1048576) (k n : Int) (hk : ¬ k = 4) {o : Ob} (hx : nmO O (k, n) = some o) (hin : ¬ n.toNat ∈ os) :
    Calls Try.prog 58 #[.pointer (some ⟨bb, 0, none⟩), .agg #[.int .i64 k, .int .i64 n]] w (VlP B bb nt no O c w (ts, os) (k, n)) := by
  obtain ⟨i, rfl, ho⟩ := noM hx
  have hk2 : (nmO O (k, (i : Int))).isSome = true := by rw [hx]; rfl
  obtain ⟨_, _, eO, _, _⟩ := hO.shape
  have hno : no = O.length := by cases eO; rfl
  have hi : i < no := by rw [hno]; exact (List.getElem?_eq_some_iff.1 ho).1
  obtain ⟨a10, p10, e10, q10, q10'⟩ := h.r4.shape
  obtain ⟨g, off, cap, e10', g1, g2, g3, g4⟩ := h.r4.full (by omega)
  rw [e10] at e10'
  injection e10' with ea eb ec
  subst ea ec
  clear eb eO
  have m10 : w.cell? ⟨bb, 10, none⟩ = some (.slice (some ⟨g, off, none⟩) no p10) := by rw [h.cell 10, ← e10]; rfl
  have z0 : w.cell? ⟨g, off + i, none⟩ = some (.int .i64 (posN os i)) := by
    rw [g4 i (by omega)]
    have := flt_at zL (allP_at (l := os) hi) 0 (by omega)
    rw [Nat.mul_one, Nat.add_zero] at this
    exact this
  have i0 : (0 : Int) ≤ (i : Int) := by omega
  have i1 : (i : Int) < (no : Int) := by omega
  unfold maxLen at g2
  have HE10 := hide e10
  have HHI := hide hi
  have hglt := g3
  rw [Int.toNat_natCast] at hin
  have em : metV nt O (ts, os) (k, (i : Int)) = (ts, os ++ [i]) := by simp [metV, hk, hk2, addN, hin]
  have en : numV nt O (ts, os ++ [i]) (k, (i : Int)) = (k, (os.length : Int)) := by simp only [numV, if_neg hk, hk2, if_true, Int.toNat_natCast]; rw [posN_self hin]
  have HP : Hid (∀ W, BkP B bb nt no c w ts (os ++ [i]) W → VlP B bb nt no O c w (ts, os) (k, (i : Int)) (.returned (.agg #[.int .i64 k, .int .i64 (os.length : Int)])) W) := fun W hW => by unfold VlP; rw [em, en]; exact ⟨rfl, hW⟩
  have hpm : posN os i = -1 := by unfold posN; rw [if_neg hin]
  rw [hpm] at z0
  obtain ⟨a8, p8, e8, q8, q8'⟩ := h.r2.shape
  have HE8 := hide e8
  have HIN := hide hin
  have m8 : w.cell? ⟨bb, 8, none⟩ = some (.slice a8 os.length p8) := by rw [h.cell 8, ← e8]; rfl
  have hgb : g ≠ bb := (h.fb 10 g (by omega) (by omega) (by rw [e10]; rfl)).2
  obtain ⟨OL, hOL⟩ : ∃ m, Hid (os.length = m) := ⟨_, hide rfl⟩
  rw [unhide hOL] at HP m8 hL q8
  unfold maxLen at q8'
  have HP1 := hide (blk2v w (.cells #[.int .i64 k, .int .i64 (i : Int)] 40) (.cells #[.int .i64 0, .int .i64 0] 40)).1
  have HP2 := hide (blk2v w (.cells #[.int .i64 k, .int .i64 (i : Int)] 40) (.cells #[.int .i64 0, .int .i64 0] 40)).2
  have HC0 := namesO_any (hO.below (bl_past (bl_two w (.cells #[.int .i64 k, .int .i64 (i : Int)] 40) (.cells #[.int .i64 0, .int .i64 0] 40)) (bl_drew _)) (Nat.le_refl _)) k i
  have d4 : (k == 4) = false := by simpa using hk
  have m1 : w.cell? ⟨bb, 1, none⟩ = some (.slice oa no oc) := by rw [h.cell 1, ← h1]; rfl
  have hbb := (blk_cells h.box).2.2
  have hbb1 : bb < w.heap.size + 1 := by omega
  have hbb2 : bb < w.heap.size + 1 + 1 := by omega
  have HM := hide h
  rw [hx] at HC0
  have HC := hide HC0
  clear em en h hO h0 h1 HC0 hx hk g4 e10 q10 q10' ho hin hk2 hno hi hpm e8
  go_enter Try.func58, Try.ntmps58
  go_wp2_with fail
  go_region_held3 (fun w' => w'.cell? ⟨w.heap.size, 0, none⟩ = some (.int .i64 k) ∧ w'.cell? ⟨w.heap.size, 1, none⟩ = some (.int .i64 (i : Int)) ∧ w'.cell? ⟨bb, 1, none⟩ = some (.slice oa no oc)) (first | exact unhide HSB | go_keep) (first | (go_at_call 54; refine (unhide HC).mono ?_; rintro e w1 ⟨rfl, hb⟩; have y1 := (blk_cells (bkeep1 (unhide HP1) hb)).1; have HSB : Hid (w1.cell? ⟨w.heap.size, 0, none⟩ = some (.int .i64 k) ∧ w1.cell? ⟨w.heap.size, 1, none⟩ = some (.int .i64 (i : Int)) ∧ w1.cell? ⟨bb, 1, none⟩ = some (.slice oa no oc)) := ⟨y1 0, y1 1, ((bl_past (bl_past (bl_two w _ _) (bl_drew _)) hb).cell (p := ⟨bb, 1, none⟩) hbb).trans m1⟩))
  have HB1 := hide (bl_past (bl_past (bl_two w _ _) (bl_drew _)) hb)
  have HQ1 := hide (bkeep1 (unhide HP1) hb)
  have HQ2 := hide (bkeep1 (unhide HP2) hb)
  have hs1 : w.heap.size + 1 < w1.heap.size := (blk_cells (unhide HQ2)).2.2
  clear hb m1 HSB HC y1

  have n8 := ((unhide HB1).cell (p := ⟨bb, 8, none⟩) hbb).trans m8
  have hbM := (unhide HM).below (unhide HB1)
  have n10 := ((unhide HB1).cell (p := ⟨bb, 10, none⟩) hbb).trans m10
  have nz := ((unhide HB1).cell (p := ⟨g, off + i, none⟩) hglt).trans z0
  have a1 := (blk_cells (unhide HQ1)).1 1
  simp at a1
  have HBM := hide hbM
  clear hbM m10 z0
  go_wp2_with fail
  go_quiet (fail)
  obtain ⟨X, hX⟩ : ∃ X, Hid (w1.drewN nq = X) := ⟨_, hide rfl⟩
  have HXB : Hid (Below w1.heap.size w1 X) := by rw [← unhide hX]; exact hide (bl_drewN w1 nq)
  rw [unhide hX]
  have HXM := hide ((unhide HBM).below (unhide HXB))
  have hsx := (unhide HXB).size
  have n10' := ((unhide HXB).cell (p := ⟨bb, 10, none⟩) (show bb < w1.heap.size by omega)).trans n10
  have nz' := ((unhide HXB).cell (p := ⟨g, off + i, none⟩) (show g < w1.heap.size by omega)).trans nz
  have HX1 := hide (bkeep1 (unhide HQ1) (unhide HXB))
  have HX2 := hide (bkeep1 (unhide HQ2) (unhide HXB))
  clear n10 nz a1 hX
  have n8' := ((unhide HXB).cell (p := ⟨bb, 8, none⟩) (show bb < w1.heap.size by omega)).trans n8
  obtain ⟨x1, -, -⟩ := blk_cells (unhide HX1)
  have b1 := x1 1
  simp at b1
  have fz := (unhide HXM).r4.free (unhide HE10) (off + i)
  have hFg : Fr (fun k => k = g) X (X.setCell ⟨g, off + i, none⟩ (.int .i64 (OL : Int))).drew := ((Fr.refl (fun k => k = g) X).setCell ⟨g, off + i, none⟩ (.inr rfl) _).drew
  have hNg : ¬ w.heap.size = g := by omega
  have HS6 : Hid ((X.setCell ⟨g, off + i, none⟩ (.int .i64 (OL : Int))).drew.cell? ⟨bb, 10, none⟩ = some (.slice (some ⟨g, off, none⟩) no p10) ∧ (X.setCell ⟨g, off + i, none⟩ (.int .i64 (OL : Int))).drew.cell? ⟨w.heap.size, 1, none⟩ = some (.int .i64 (i : Int)) ∧ (X.setCell ⟨g, off + i, none⟩ (.int .i64 (OL : Int))).drew.cell? ⟨bb, 8, none⟩ = some (.slice a8 OL p8)) := ⟨(hFg.cell (a := ⟨bb, 10, none⟩) (show bb < X.heap.size by omega) (fun e => hgb e.symm)).trans n10', (hFg.cell (a := ⟨w.heap.size, 1, none⟩) (show w.heap.size < X.heap.size by omega) hNg).trans b1, (hFg.cell (a := ⟨bb, 8, none⟩) (show bb < X.heap.size by omega) (fun e => hgb e.symm)).trans n8'⟩
  have y8 := (unhide HS6).2.2
  have y1 := (unhide HS6).2.1
  have hFa : Fr (fun k => k = g) X (((X.setCell ⟨g, off + i, none⟩ (.int .i64 (OL : Int))).alloc (.cells #[.int .i64 (i : Int)] 3)).drew.drew) := ((((Fr.refl (fun k => k = g) X).setCell ⟨g, off + i, none⟩ (.inr rfl) _).alloc (.cells #[.int .i64 (i : Int)] 3)).drew).drew
  have HS7a : Hid (((X.setCell ⟨g, off + i, none⟩ (.int .i64 (OL : Int))).alloc (.cells #[.int .i64 (i : Int)] 3)).drew.drew.cell? ⟨bb, 8, none⟩ = some (.slice a8 OL p8) ∧ ((X.setCell ⟨g, off + i, none⟩ (.int .i64 (OL : Int))).alloc (.cells #[.int .i64 (i : Int)] 3)).drew.drew.cell? ⟨w.heap.size, 1, none⟩ = some (.int .i64 (i : Int))) := ⟨(hFa.cell (a := ⟨bb, 8, none⟩) (show bb < X.heap.size by omega) (fun e => hgb e.symm)).trans n8', (hFa.cell (a := ⟨w.heap.size, 1, none⟩) (show w.heap.size < X.heap.size by omega) hNg).trans b1⟩
  have y8a : ((X.setCell ⟨g, off + i, none⟩ (.int .i64 (OL : Int))).alloc (.cells #[.int .i64 (i : Int)] 3)).cell? ⟨bb, 8, none⟩ = some (.slice a8 OL p8) := (unhide HS7a).1
  have y1a : ((X.setCell ⟨g, off + i, none⟩ (.int .i64 (OL : Int))).alloc (.cells #[.int .i64 (i : Int)] 3)).cell? ⟨w.heap.size, 1, none⟩ = some (.int .i64 (i : Int)) := (unhide HS7a).2
  have hb2 := (unhide HXM).below (bl_past (bl_drew X) (bl_drew _))
  have hrow : Ro ((((X.setCell ⟨g, off + i, none⟩ (.int .i64 (OL : Int))).drew).drew).alloc (.cells #[.int .i64 (i : Int)] 3)) 1 (.slice a8 OL p8) OL (flt enN os) := by
    have hFF : Fr (fun k => k = g) X ((((X.setCell ⟨g, off + i, none⟩ (.int .i64 (OL : Int))).drew).drew).alloc (.cells #[.int .i64 (i : Int)] 3)) := (hFg.drew).alloc _
    have := (unhide HXM).r2.fr hFF (fun k hk q => (unhide HXM).ap 8 10 k (by omega) (by omega) (by omega) (by omega) (by omega) hk (by rw [unhide HE10, q]; rfl))
    rw [unhide HE8, unhide hOL] at this
    exact this
  obtain ⟨j0, hj0, hz0, hz1, hz2⟩ := info_parts infN
  have hszY : (((X.setCell ⟨g, off + i, none⟩ (.int .i64 (OL : Int))).drew).drew).heap.size = X.heap.size := by simp [World.setCell]
  obtain ⟨v', w3, hrun, r1, r2, r3⟩ := Ro.app (P := Try.prog) 64 64 3 j0 _ 1 8 Try.underlying64 hj0 hz0 hz1 hz2 rfl (by decide) hrow ⟨X.heap.size, 0, none⟩ 1 1 (enN i) rfl (by have := new_cells (((X.setCell ⟨g, off + i, none⟩ (.int .i64 (OL : Int))).drew).drew) #[.int .i64 (i : Int)] 3; rw [hszY] at this; exact this) (by simp [enN, Value.oneCell']) (by omega) (by unfold maxLen; omega) (by omega)
  obtain ⟨va, vc, ev, -, -⟩ := r1.shape
  obtain ⟨t1, t2, t3, t4, t5⟩ := hb2.meetO (v' := v') (w2 := w3) (n := i) (unhide HIN) (unhide HHI) (unhide HE10) (by exact r1) (by rw [unhide hOL]) (by rw [unhide HE8, unhide hOL]; exact r2) (by rw [unhide HE8, unhide hOL]; exact r3)
  have HC6 : Hid (∀ v' i, i ≤ 6 → (upd c 8 v') i = c i) := fun v' i hi => by unfold upd; rw [if_neg (by omega)]
  have HBK : Hid (BkP B bb nt no c X ts (os ++ [i]) (w3.setCell ⟨bb, 8, none⟩ v')) := ⟨_, t1, ⟨t2.os, t2.tape, t2.output, t2.size, t2.block⟩, t3, unhide HC6 v'⟩
  have hFr3 : Fr (fun k => bkb c bb k) X (w3.setCell ⟨bb, 8, none⟩ v') := ⟨t2.os, t2.tape, t2.output, t2.size, t2.block⟩
  have hlt : ∀ k, bkb c bb k → k < w.heap.size := fun k hk => ((unhide HM).in hk).2
  have HRUN := hide hrun
  subst ev
  have x8 : w3.cell? ⟨bb, 8, none⟩ = some (.slice a8 OL p8) := by
    have := (blk_cells t4).1 8
    rw [← unhide hOL, ← unhide HE8]
    exact this
  have x10 : w3.cell? ⟨bb, 10, none⟩ = some (.slice (some ⟨g, off, none⟩) no p10) := by
    have := (blk_cells t4).1 10
    rw [← unhide HE10]
    exact this
  have xf8 := (blk_cells t4).2.1 8
  have hbl3 := (blk_cells t4).2.2
  have s3 := hFr3.size
  have xz : (w3.setCell ⟨bb, 8, none⟩ (.slice va (OL + 1) vc)).cell? ⟨g, off + i, none⟩ = some (.int .i64 (OL : Int)) := by
    refine (World.cell?_of_block (Below.heap_setCell _ _ _ _ hgb)).trans ?_
    rw [unhide HE10] at t5
    obtain ⟨g', off', cap', e', _, _, _, hc'⟩ := t5.full (by have := unhide HHI; omega)
    cases e'
    rw [hc' i (by have := unhide HHI; omega)]
    have := flt_at zL (allP_at (l := os ++ [i]) (unhide HHI)) 0 (by omega)
    rw [Nat.mul_one, Nat.add_zero, posN_self (unhide HIN), unhide hOL] at this
    exact this
  have k1 := (hFr3.block w.heap.size (by omega) (fun q => by have := hlt _ q; omega)).trans (unhide HX1)
  have k2 := (hFr3.block (w.heap.size + 1) (by omega) (fun q => by have := hlt _ q; omega)).trans (unhide HX2)
  have x1' : w3.cell? ⟨w.heap.size, 1, none⟩ = some (.int .i64 (i : Int)) := by
    have := (blk_cells k1).1 1
    rw [World.cell?_of_block (Below.heap_setCell _ _ _ _ (show w.heap.size ≠ bb by omega))] at this
    simpa using this
  have HS7 : Hid (w3.cell? ⟨bb, 8, none⟩ = some (.slice a8 OL p8) ∧ w3.cell? ⟨w.heap.size, 1, none⟩ = some (.int .i64 (i : Int))) := ⟨x8, x1'⟩
  have K1 := hide k1
  have K2 := hide k2
  have XZ := hide xz
  have X10 := hide x10
  have HFr3 := hide hFr3
  clear t1 t2 t3 t4 t5 r1 r2 r3 hrun hrow hb2 hFr3 k1 k2 xz x10 hFg hlt x1
  go_wp2_with fail
  go_region_held3 (fun w' => w'.cell? ⟨bb, 10, none⟩ = some (.slice (some ⟨g, off, none⟩) no p10) ∧ w'.cell? ⟨w.heap.size, 1, none⟩ = some (.int .i64 (i : Int)) ∧ w'.cell? ⟨bb, 8, none⟩ = some (.slice a8 OL p8)) (first | exact unhide HS6 | go_keep) (fail)
  go_wp2_with fail
  go_region_law ((refine step_appRun rfl _ _ (by rfl) _ _ _ (by rfl) (by rfl) (unhide HRUN) ?_))
  all_goals
    obtain ⟨Z, hZ⟩ : ∃ Z, Hid (w3.setCell ⟨bb, 8, none⟩ (.slice va (OL + 1) vc) = Z) := ⟨_, hide rfl⟩
    have hx10 : (w3.setCell ⟨bb, 8, none⟩ (.slice va (OL + 1) vc)).cell? ⟨bb, 10, none⟩ = some (.slice (some ⟨g, off, none⟩) no p10) := by
      have ne1 : (⟨bb, 8, none⟩ : Addr) ≠ ⟨bb, 10, none⟩ := fun e => by cases e
      exact ((by first | exact World.cell?_setCell_other ne1 | exact World.cell?_setCell_other _ ne1 | exact World.cell?_setCell_other _ _ ne1 | exact World.cell?_setCell_other _ _ _ ne1 | exact World.cell?_setCell_other _ _ _ _ ne1 : (w3.setCell ⟨bb, 8, none⟩ (.slice va (OL + 1) vc)).cell? ⟨bb, 10, none⟩ = w3.cell? ⟨bb, 10, none⟩)).trans (unhide X10)
    have HX10 := hide hx10
    rw [unhide hZ] at K1 K2 XZ HBK HX10 HFr3 ⊢
    obtain ⟨c1, -, -⟩ := blk_cells (unhide K1)
    obtain ⟨c2, cf, -⟩ := blk_cells (unhide K2)
    have b0 := c1 0
    have b1' := c1 1
    have y0' := c2 0
    have y1' := c2 1
    have f0 := cf 0
    have f1 := cf 1
    simp at b0 b1' y0' y1'
    have b10 := unhide HX10
    have bz := unhide XZ
    have s3' := (unhide HFr3).size
    have b1o := b1
    clear b1
    have b1 := b1'
    clear c1 c2 cf n10' nz' hx10 hZ x8 y8 y8a y1a xf8 hbl3 x1' fz b1o b1'
    have HS8 : Hid (∀ W, Fr (fun k => k = w.heap.size + 1) Z W → (W.cell? ⟨w.heap.size, 0, none⟩ = some (.int .i64 k) ∧ W.cell? ⟨bb, 10, none⟩ = some (.slice (some ⟨g, off, none⟩) no p10) ∧ W.cell? ⟨w.heap.size, 1, none⟩ = some (.int .i64 (i : Int)) ∧ W.cell? ⟨g, off + i, none⟩ = some (.int .i64 (OL : Int)))) := fun W hF => ⟨(hF.cell (a := ⟨w.heap.size, 0, none⟩) (show w.heap.size < Z.heap.size by omega) (show ¬ w.heap.size = w.heap.size + 1 by omega)).trans b0, (hF.cell (a := ⟨bb, 10, none⟩) (show bb < Z.heap.size by omega) (show ¬ bb = w.heap.size + 1 by omega)).trans b10, (hF.cell (a := ⟨w.heap.size, 1, none⟩) (show w.heap.size < Z.heap.size by omega) (show ¬ w.heap.size = w.heap.size + 1 by omega)).trans b1, (hF.cell (a := ⟨g, off + i, none⟩) (show g < Z.heap.size by omega) (show ¬ g = w.heap.size + 1 by omega)).trans bz⟩
    go_wp2_with fail
    go_region_held3 (fun w' => w'.cell? ⟨w.heap.size, 0, none⟩ = some (.int .i64 k) ∧ w'.cell? ⟨bb, 10, none⟩ = some (.slice (some ⟨g, off, none⟩) no p10) ∧ w'.cell? ⟨w.heap.size, 1, none⟩ = some (.int .i64 (i : Int)) ∧ w'.cell? ⟨g, off + i, none⟩ = some (.int .i64 (OL : Int))) (first | (refine unhide HS8 _ ?_; repeat (first | refine Fr.drew ?_ | refine Fr.setCell ?_ _ (by simp) _ | with_reducible exact Fr.refl _ _)) | go_keep) (fail)
    go_wp2_with fail
    refine bodyPost_ret (v := .agg #[.int .i64 k, .int .i64 (OL : Int)]) ?_ rfl ?_
    · rw [results_cell_one rfl]
      go_simp
    · apply unhide HP
      refine BkP.wrap (unhide HM) (unhide HBK) (bl_past (unhide HB1) (unhide HXB)) ?_
      repeat (first | refine Fr.drew ?_ | refine Fr.setCell ?_ _ (by right; simp; omega) _ | with_reducible exact Fr.refl _ _)
end Go.Proofs.Ytadgiccfjppnfaa
