/-
  LiveTwice's law.
-/
import Derived.Test.YtpbdmbmafjkinaaDoorSw
import Derived.Test.YtpbdmbmafjkinaaDoorTk
namespace Go.Proofs.YtpbdmbmafjkinaaDoor
open Go.RowKit
set_option linter.unusedVariables false
set_option linter.unusedSimpArgs false
theorem kepC_okT {bl : List Bk} (h : ∀ b ∈ bl, OkL b) : ∀ b ∈ kepC bl, OkL b := fun b hb => by
  obtain ⟨i, hi, rfl⟩ := List.getElem_of_mem hb
  have hil : i < bl.length := by rw [kepC_len] at hi; exact hi
  have q := kepC_at (List.getElem?_eq_getElem hil)
  rw [List.getElem?_eq_getElem hi] at q
  rw [Option.some.inj q]
  obtain ⟨h2, h3, h4⟩ := h _ (List.getElem_mem hil)
  exact ⟨Nat.le_trans (kepL_len _ _) h2, h3, fun x hx => h4 x (kepL_mem hx)⟩
/-- Behind what stays, the same is wanted: as After answers. -/
theorem aft_stay {bl : List Bk} {b i : Nat} {u : Bk} {x : RIn} (hu : bl[b]? = some u) (hx : u.ins[i]? = some x) (hg : gone (wS bl b) u.ins i = false) : aft (kepC bl) (b : Int) (cntK (wS bl b) u.ins i : Int) = aft bl (b : Int) (i : Int) := by
  have hi := (List.getElem?_eq_some_iff.1 hx).1
  have hk := (List.getElem?_eq_some_iff.1 (cntK_stay hx hg).2).1
  rw [aft_yes (kepC_at hu) hk, aft_yes hu hi]
  exact congrArg regsOf (wants_stay hu hx hg)
/-- What stands while the law goes on. -/
structure TwS (w : World) (fn regs : Int) (bl : List Bk) (iv dv : Value) (db : Nat) (V : World) : Prop where
  bw : Below w.heap.size w V
  b1 : V.heap[w.heap.size]? = some (.cells #[.int .i64 fn, .int .i64 regs, iv] 24)
  b2 : V.heap[db]? = some (.cells #[.int .i64 fn, .int .i64 regs, dv] 24)
  i : BksV (fun k => k < w.heap.size) V bl iv
  d : BksV (fun _ => True) V (kepC bl) dv
  tt : TT V
section
variable {w : World} {fn regs : Int} {bl : List Bk} {iv dv : Value} {db : Nat} {V V' : World}
theorem TwS.on (h : TwS w fn regs bl iv dv db V) (f : Below V.heap.size V V') : TwS w fn regs bl iv dv db V' :=
  ⟨bl_past h.bw f, keepB f h.b1, keepB f h.b2, BksV.mv.bel h.i f, BksV.mv.bel h.d f, h.tt.below h.tt.1 f⟩
theorem TwS.c1 (h : TwS w fn regs bl iv dv db V) : w.heap.size < V.heap.size ∧ V.cell? ⟨w.heap.size, 0, none⟩ = some (.int .i64 fn) ∧ V.cell? ⟨w.heap.size, 1, none⟩ = some (.int .i64 regs) ∧ V.cell? ⟨w.heap.size, 2, none⟩ = some iv := by
  obtain ⟨q1, _, q3⟩ := blk_cells h.b1
  exact ⟨q3, q1 0, q1 1, q1 2⟩
theorem TwS.c2 (h : TwS w fn regs bl iv dv db V) : db < V.heap.size ∧ V.cell? ⟨db, 0, none⟩ = some (.int .i64 fn) ∧ V.cell? ⟨db, 1, none⟩ = some (.int .i64 regs) ∧ V.cell? ⟨db, 2, none⟩ = some dv := by
  obtain ⟨q1, _, q3⟩ := blk_cells h.b2
  exact ⟨q3, q1 0, q1 1, q1 2⟩
end
/-- A code laid into a box of its own. -/
theorem cboxG (V : World) (x y : Int) (v : Value) {X0 X : World} (h0 : V.alloc (.cells #[.int .i64 0, .int .i64 0, .slice none 0 0] 24) = X0) (h : ((X0.setCell ⟨V.heap.size, 0, none⟩ (.int .i64 x)).setCell ⟨V.heap.size, 1, none⟩ (.int .i64 y)).setCell ⟨V.heap.size, 2, none⟩ v = X) : Below V.heap.size V X ∧ X.heap[V.heap.size]? = some (.cells #[.int .i64 x, .int .i64 y, v] 24) := by
  subst h0
  have hn := heap_alloc_new V (.cells #[.int .i64 0, .int .i64 0, .slice none 0 0] 24)
  have q := setCell_block (o := 2) (setCell_block (o := 1) (setCell_block (o := 0) hn (.int .i64 x)) (.int .i64 y)) v
  rw [h] at q
  have f : Fr (fun k => k = V.heap.size) (V.alloc (.cells #[.int .i64 0, .int .i64 0, .slice none 0 0] 24)) X := by rw [← h]; exact ((Fr.setCell (S := fun q => q = V.heap.size) (Fr.refl _ _) ⟨V.heap.size, 0, none⟩ (.inr rfl) _).setCell ⟨V.heap.size, 1, none⟩ (.inr rfl) _).setCell ⟨V.heap.size, 2, none⟩ (.inr rfl) _
  refine ⟨(box1n V _).trans (f.below (by simp) (fun k hk e => by omega)), ?_⟩
  rw [q]
  rfl
set_option maxRecDepth 100000 in
set_option maxHeartbeats 25600000 in
theorem twiceLaw {w : World} {fn regs : Int} {bl : List Bk} {v : Value} (h : BksV (fun k => k < w.heap.size) w bl v) (hO : ∀ b ∈ bl, OkL b) (hN : bl.length ≤ 1048576) (hT : TT w) :
    Calls Tryd.prog 6 #[.agg #[.int .i64 fn, .int .i64 regs, v]] w fun e w' => e = .returned (.bool true) ∧ Below w.heap.size w w' := by
  obtain ⟨a, c, rfl, ha1, ha2⟩ := NV.shape h
  obtain ⟨L, hL⟩ : ∃ L, Hid (bl.length = L) := ⟨_, hide rfl⟩
  rw [unhide hL] at h hN ha1 ⊢
  have HO := hide hO
  have HOK : Hid (∀ b ∈ kepC bl, OkL b) := kepC_okT hO
  have HKL : Hid ((kepC bl).length = L) := by unfold Hid; rw [kepC_len, unhide hL]
  obtain ⟨W, hW0⟩ : ∃ W0, Hid (w.alloc (.cells #[.int .i64 fn, .int .i64 regs, .slice a L c] 24) = W0) := ⟨_, hide rfl⟩
  have HWb : Hid (Below w.heap.size w W) := by rw [← unhide hW0]; exact box1n w _
  have hbx := heap_alloc_new w (.cells #[.int .i64 fn, .int .i64 regs, .slice a L c] 24)
  rw [unhide hW0] at hbx
  have HBX := hide hbx
  have HI := hide (BksV.mv.bel h (unhide HWb))
  have HT := hide (hT.below hT.1 (unhide HWb))
  have hW0' := unhide hW0
  have HRU := hide (run_any (fn := fn) (regs := regs) (unhide HI) (unhide HO) (by rw [unhide hL]; exact hN))
  unfold maxLen at ha2
  have x0 := (blk_cells hbx).1 0
  have x1 := (blk_cells hbx).1 1
  have x2 := (blk_cells hbx).1 2
  have xl := (blk_cells hbx).2.2
  simp at x0 x1 x2
  clear h hO hT hbx
  go_enter Tryd.func6, Tryd.ntmps6
  go_wp2_with fail
  clear x0 x1 x2 xl hW0' hW0
  refine (unhide HRU).mono ?_
  rintro e W1 hA
  obtain ⟨da, dc, Td, rfl, hd1, hd2, b1, od⟩ := hA.at
  rw [unhide HKL] at hd1 od ⊢
  obtain ⟨X0, hX0⟩ : ∃ z, Hid (W1.alloc (.cells #[.int .i64 0, .int .i64 0, .slice none 0 0] 24) = z) := ⟨_, hide rfl⟩
  have hn := heap_alloc_new W1 (.cells #[.int .i64 0, .int .i64 0, .slice none 0 0] 24)
  rw [unhide hX0] at hn
  have x0 := (blk_cells hn).1 0
  have x1 := (blk_cells hn).1 1
  have x2 := (blk_cells hn).1 2
  have y0 := (blk_cells hn).2.1 0
  have y1 := (blk_cells hn).2.1 1
  have y2 := (blk_cells hn).2.1 2
  have yl := (blk_cells hn).2.2
  simp at x0 x1 x2
  obtain ⟨X, hX⟩ : ∃ z, Hid (((X0.setCell ⟨W1.heap.size, 0, none⟩ (.int .i64 fn)).setCell ⟨W1.heap.size, 1, none⟩ (.int .i64 regs)).setCell ⟨W1.heap.size, 2, none⟩ (.slice da L dc) = z) := ⟨_, hide rfl⟩
  have hcb := cboxG W1 fn regs (.slice da L dc) (X0 := X0) (X := X) (unhide hX0) (unhide hX)
  have hbel : Below W1.heap.size W1 X := hcb.1
  have HS : Hid (TwS w fn regs bl (.slice a L c) (.slice da L dc) W1.heap.size X) := ⟨bl_past (bl_past (unhide HWb) b1) hbel, keepB hbel (keepB b1 (unhide HBX)), hcb.2, BksV.mv.bel (BksV.mv.bel (unhide HI) b1) hbel, BksV.mv.bel (BksV.of_ow od) hbel, ((unhide HT).below (unhide HT).1 b1).below ((unhide HT).below (unhide HT).1 b1).1 hbel⟩
  have hX0' := unhide hX0
  have hX' := unhide hX
  clear hn hcb hbel od b1 hA HRU HI HT HBX HWb
  go_wp2_with fail
  clear hX0' hX0 hX' hX x0 x1 x2 y0 y1 y2 yl
  obtain ⟨db, hdb⟩ : ∃ z, Hid (W1.heap.size = z) := ⟨_, hide rfl⟩
  rw [unhide hdb] at HS ⊢
  clear hdb
  obtain ⟨Y2, hY2⟩ : ∃ z, Hid (X.drew = z) := ⟨_, hide rfl⟩
  have HS0 : Hid (Below X.heap.size X Y2) := by rw [← unhide hY2]; exact bl_drew X
  have HC1 : Hid (∀ V, Below X.heap.size X V → w.heap.size < V.heap.size ∧ V.cell? ⟨w.heap.size, 0, none⟩ = some (.int .i64 fn) ∧ V.cell? ⟨w.heap.size, 1, none⟩ = some (.int .i64 regs) ∧ V.cell? ⟨w.heap.size, 2, none⟩ = some (.slice a L c)) := fun V hV => ((unhide HS).on hV).c1
  have HC2 : Hid (∀ V, Below X.heap.size X V → db < V.heap.size ∧ V.cell? ⟨db, 0, none⟩ = some (.int .i64 fn) ∧ V.cell? ⟨db, 1, none⟩ = some (.int .i64 regs) ∧ V.cell? ⟨db, 2, none⟩ = some (.slice da L dc)) := fun V hV => ((unhide HS).on hV).c2
  have HRN := hide (run_any (w := Y2) (fn := fn) (regs := regs) ((unhide HS).on (unhide HS0)).d (unhide HOK) (by rw [unhide HKL]; exact hN))
  rw [kepC_kep] at HRN
  refine wp_region_held_drew (S := fun V => Below X.heap.size X V) (by kernel_rfl) (by rw [unhide hY2]; exact unhide HS0) (fun hHeld => ?_)
  clear hHeld
  rw [unhide hY2]
  clear hY2
  refine wpAnyH_take (i := 0) (oi := _) (v := .agg #[.int .i64 fn, .int .i64 regs, .slice da L dc]) rfl (by kernel_rfl) (by kernel_rfl) (by kernel_rfl) (fun _ _ _ h => h) (Or.inl ⟨by rfl, (by intro w' hSw; obtain ⟨q0, q1, q2, q3⟩ := unhide HC2 w' hSw; go_simp; first | done | rfl)⟩) (unhide HS0) ?_
  go_simp
  refine wpAnyH_take (i := 2) (oi := _) (v := .agg #[.int .i64 fn, .int .i64 regs, .slice da L dc]) rfl (by kernel_rfl) (by kernel_rfl) (by kernel_rfl) (fun _ _ _ h => h) (Or.inl ⟨by rfl, (by intro w' hSw; obtain ⟨q0, q1, q2, q3⟩ := unhide HC2 w' hSw; go_simp; first | done | rfl)⟩) (unhide HS0) ?_
  go_simp
  refine wpAnyH_ready (rs := [1]) (by kernel_rfl) (by simp) ?_
  refine AllReadyH.cons (o := _) rfl (fun K hK => ?_) AllReadyH.nil
  go_simp
  refine (unhide HRN).mono ?_
  rintro e Y3 hA
  obtain ⟨aw, cw, Tw, rfl, q1, q2, b3, ow⟩ := hA.at
  have HS3 : Hid (Below X.heap.size X Y3) := (unhide HS0).trans (b3.mono (unhide HS0).size)
  have HBW := hide (BksV.of_ow ow)
  rw [unhide HKL] at HBW q1 ⊢
  clear q1 q2 b3 ow hA HRN HS0
  refine hK.out _ _ (unhide HS3) (fun _ => ?_)
  clear hK K
  go_simp
  have HSR2 := hide (sameR_yes (w := Y3) (fn := fn) (regs := regs) (unhide HBW) ((unhide HS).on (unhide HS3)).d (by rw [unhide HKL]; exact hN) (fun b hb => by have q := unhide HOK b hb; exact ⟨q.1, q.2.1, q.2.2⟩))
  refine wpAnyH_ready (rs := [3]) (by kernel_rfl) (by simp) ?_
  refine AllReadyH.cons (o := _) rfl (fun K hK => ?_) AllReadyH.nil
  go_simp
  refine (unhide HSR2).mono ?_
  rintro e Y4 ⟨rfl, b4⟩
  have HS4 : Hid (Below X.heap.size X Y4) := (unhide HS3).trans (b4.mono (unhide HS3).size)
  clear b4 HSR2 HBW
  refine hK.out _ _ (unhide HS4) (fun _ => ?_)
  clear hK K
  go_simp
  refine wpAnyH_take (i := 4) (oi := _) (v := .bool false) rfl (by kernel_rfl) (by kernel_rfl) (by kernel_rfl) (fun _ _ _ h => h) (Or.inl ⟨by rfl, (by intro w' hSw; go_simp; first | done | rfl)⟩) (unhide HS4) ?_
  go_simp
  refine wpAnyH_take (i := 5) (oi := _) (v := .bool false) rfl (by kernel_rfl) (by kernel_rfl) (by kernel_rfl) (fun _ _ _ h => h) (Or.inl ⟨by rfl, (by intro w' hSw; go_simp; first | done | rfl)⟩) (unhide HS4) ?_
  go_simp
  refine wpAnyH_take (i := 6) (oi := _) (v := .pointer (some ⟨db, 2, none⟩)) rfl (by kernel_rfl) (by kernel_rfl) (by kernel_rfl) (fun _ _ _ h => h) (Or.inl ⟨by rfl, (by intro w' hSw; go_simp; first | done | rfl)⟩) (unhide HS4) ?_
  go_simp
  refine wpAnyH_take (i := 7) (oi := _) (v := .slice da L dc) rfl (by kernel_rfl) (by kernel_rfl) (by kernel_rfl) (fun _ _ _ h => h) (Or.inl ⟨by rfl, (by intro w' hSw; obtain ⟨q0, q1, q2, q3⟩ := unhide HC2 w' hSw; go_simp; first | done | rfl)⟩) (unhide HS4) ?_
  go_simp
  refine wpAnyH_take (i := 8) (oi := _) (v := .int .i64 (L : Int)) rfl (by kernel_rfl) (by kernel_rfl) (by kernel_rfl) (fun _ _ _ h => h) (Or.inl ⟨by rfl, (by intro w' hSw; go_simp; first | done | rfl)⟩) (unhide HS4) ?_
  go_simp
  refine wpAnyH_take (i := 9) (oi := _) (v := .pointer (some ⟨w.heap.size, 2, none⟩)) rfl (by kernel_rfl) (by kernel_rfl) (by kernel_rfl) (fun _ _ _ h => h) (Or.inl ⟨by rfl, (by intro w' hSw; go_simp; first | done | rfl)⟩) (unhide HS4) ?_
  go_simp
  refine wpAnyH_take (i := 10) (oi := _) (v := .slice a L c) rfl (by kernel_rfl) (by kernel_rfl) (by kernel_rfl) (fun _ _ _ h => h) (Or.inl ⟨by rfl, (by intro w' hSw; obtain ⟨q0, q1, q2, q3⟩ := unhide HC1 w' hSw; go_simp; first | done | rfl)⟩) (unhide HS4) ?_
  go_simp
  refine wpAnyH_take (i := 11) (oi := _) (v := .int .i64 (L : Int)) rfl (by kernel_rfl) (by kernel_rfl) (by kernel_rfl) (fun _ _ _ h => h) (Or.inl ⟨by rfl, (by intro w' hSw; go_simp; first | done | rfl)⟩) (unhide HS4) ?_
  go_simp
  refine wpAnyH_take (i := 12) (oi := _) (v := .bool false) rfl (by kernel_rfl) (by kernel_rfl) (by kernel_rfl) (fun _ _ _ h => h) (Or.inl ⟨by rfl, (by intro w' hSw; go_simp; first | done | rfl)⟩) (unhide HS4) ?_
  go_simp
  refine wpAnyH_take (i := 13) (oi := _) (v := .bool false) rfl (by kernel_rfl) (by kernel_rfl) (by kernel_rfl) (fun _ _ _ h => h) (Or.inl ⟨by rfl, (by intro w' hSw; go_simp; first | done | rfl)⟩) (unhide HS4) ?_
  go_simp
  refine wpAnyH_done (by kernel_rfl) ?_ _
  have HSL := hide ((unhide HS).on (unhide HS4))
  go_wp2_with fail
  clear HS HS3 HS4 HC1 HC2
  go_loopg [4] L (fun gg t4 wr => ∃ b : Nat, Hid (b + gg = L) ∧ t4 = .int .i64 (b : Int) ∧ Hid (TwS w fn regs bl (.slice a L c) (.slice da L dc) db wr))
  case atStart => exact ⟨0, by unfold Hid; omega, rfl, HSL⟩
  case round =>
    clear HSL
    obtain ⟨b, hb, rfl, hG⟩ := hrel
    obtain ⟨e0, e1, e2, e3⟩ := (unhide hG).c1
    by_cases hlt : b < L
    · have b0 : (0 : Int) ≤ (b : Int) := by omega
      have b1 : (b : Int) < (L : Int) := by omega
      obtain ⟨u, hu⟩ : ∃ u, bl[b]? = some u := ⟨_, List.getElem?_eq_getElem (by rw [unhide hL]; exact hlt)⟩
      have hku := kepC_at hu
      obtain ⟨vb, vo, ia, ic, na, nc, ea, hvb, hIns, hNx, hic, hnc, hicl, hncl, hcc⟩ := (unhide hG).i.blk hu
      obtain ⟨xb, xo, ka, kc, ma, mc, ex, hxb, hKns, hMx, hkc, hmc, hkcl, hmcl, hcd⟩ := (unhide hG).d.blk hku
      subst ea ex
      simp only at hKns hMx hkcl hmcl hcd
      have HTK := hide (fun V (hV : Below wr.heap.size wr V) => taken_any (w := V) (r := ⟨u.pc, .slice ia u.ins.length ic, .slice na u.nx.length nc⟩) (q := ⟨u.pc, .slice ka (kepL (wS bl b) u.ins).length kc, .slice ma u.nx.length mc⟩) (BkP.mv _ _ _ _ _ _ _ (show BkP (fun k => k < w.heap.size) wr u _ from ⟨rfl, hIns, hNx⟩) (Fr.of_below (S := fun _ => False) hV) (fun k hk d => ⟨fun e => e, d⟩)) (BkP.mv _ _ _ _ _ _ _ (show BkP (fun _ => True) wr ⟨u.pc, kepL (wS bl b) u.ins, u.nx⟩ _ from ⟨rfl, hKns, hMx⟩) (Fr.of_below (S := fun _ => False) hV) (fun k hk d => ⟨fun e => e, d⟩)) (unhide HO u (List.mem_of_getElem? hu)))
      obtain ⟨n, hnn⟩ : ∃ z, Hid (u.ins.length = z) := ⟨_, hide rfl⟩
      obtain ⟨M, hM⟩ : ∃ z, Hid ((kepL (wS bl b) u.ins).length = z) := ⟨_, hide rfl⟩
      obtain ⟨NL, hNL⟩ : ∃ z, Hid (u.nx.length = z) := ⟨_, hide rfl⟩
      have hn8 : n ≤ 1048576 := by rw [← unhide hnn]; exact (unhide HO u (List.mem_of_getElem? hu)).1
      unfold bkV at HTK
      dsimp only at HTK
      rw [unhide hnn, unhide hNL] at HTK hcc
      rw [unhide hM] at HTK hcd
      rw [unhide hNL] at hcd
      have HU := hide hu
      have HC1 : Hid (∀ V, Below wr.heap.size wr V → w.heap.size < V.heap.size ∧ V.cell? ⟨w.heap.size, 0, none⟩ = some (.int .i64 fn) ∧ V.cell? ⟨w.heap.size, 1, none⟩ = some (.int .i64 regs) ∧ V.cell? ⟨w.heap.size, 2, none⟩ = some (.slice (some ⟨vb, vo, none⟩) L c)) := fun V hV => ((unhide hG).on hV).c1
      have HC2 : Hid (∀ V, Below wr.heap.size wr V → db < V.heap.size ∧ V.cell? ⟨db, 0, none⟩ = some (.int .i64 fn) ∧ V.cell? ⟨db, 1, none⟩ = some (.int .i64 regs) ∧ V.cell? ⟨db, 2, none⟩ = some (.slice (some ⟨xb, xo, none⟩) L dc)) := fun V hV => ((unhide hG).on hV).c2
      have HBC := hide hcc
      have HBD := hide hcd
      clear hu hku hIns hNx hKns hMx hcc hcd
      go_wp2_with fail
      clear e0 e1 e2 e3
      obtain ⟨Y2, hY2⟩ : ∃ z, Hid (wr.drew = z) := ⟨_, hide rfl⟩
      have HS0 : Hid (Below wr.heap.size wr Y2) := by rw [← unhide hY2]; exact bl_drew wr
      have HTK2 := hide (unhide HTK Y2 (unhide HS0))
      clear HTK
      have HTK := HTK2
      clear HTK2
      refine wp_region_held_drew (S := fun V => Below wr.heap.size wr V) (by kernel_rfl) (by rw [unhide hY2]; exact unhide HS0) (fun hHeld => ?_)
      clear hHeld
      rw [unhide hY2]
      clear hY2
      refine wpAnyH_take (i := 0) (oi := _) (v := .pointer (some ⟨w.heap.size, 2, none⟩)) rfl (by kernel_rfl) (by kernel_rfl) (by kernel_rfl) (fun _ _ _ h => h) (Or.inl ⟨by rfl, (by intro w' hSw; go_simp; first | done | rfl)⟩) (unhide HS0) ?_
      go_simp
      refine wpAnyH_take (i := 1) (oi := _) (v := .slice (some ⟨vb, vo, none⟩) L c) rfl (by kernel_rfl) (by kernel_rfl) (by kernel_rfl) (fun _ _ _ h => h) (Or.inl ⟨by rfl, (by intro w' hSw; obtain ⟨q0, q1, q2, q3⟩ := unhide HC1 w' hSw; go_simp; first | done | rfl)⟩) (unhide HS0) ?_
      go_simp
      refine wpAnyH_take (i := 2) (oi := _) (v := .int .i64 (b : Int)) rfl (by kernel_rfl) (by kernel_rfl) (by kernel_rfl) (fun _ _ _ h => h) (Or.inl ⟨by rfl, (by intro w' hSw; go_simp; first | done | rfl)⟩) (unhide HS0) ?_
      go_simp
      refine wpAnyH_take (i := 3) (oi := _) (v := .pointer (some ⟨vb, vo + b * 3, none⟩)) rfl (by kernel_rfl) (by kernel_rfl) (by kernel_rfl) (fun _ _ _ h => h) (Or.inl ⟨by rfl, (by intro w' hSw; go_simp; first | done | rfl)⟩) (unhide HS0) ?_
      go_simp
      refine wpAnyH_take (i := 4) (oi := _) (v := .agg #[.int .i64 u.pc, .slice ia n ic, .slice na NL nc]) rfl (by kernel_rfl) (by kernel_rfl) (by kernel_rfl) (fun _ _ _ h => h) (Or.inl ⟨by rfl, (by intro w' hSw; obtain ⟨m0, m1, m2, m3⟩ := unhide HBC w' hSw; go_simp; first | done | rfl)⟩) (unhide HS0) ?_
      go_simp
      refine wpAnyH_take (i := 5) (oi := _) (v := .pointer (some ⟨db, 2, none⟩)) rfl (by kernel_rfl) (by kernel_rfl) (by kernel_rfl) (fun _ _ _ h => h) (Or.inl ⟨by rfl, (by intro w' hSw; go_simp; first | done | rfl)⟩) (unhide HS0) ?_
      go_simp
      refine wpAnyH_take (i := 6) (oi := _) (v := .slice (some ⟨xb, xo, none⟩) L dc) rfl (by kernel_rfl) (by kernel_rfl) (by kernel_rfl) (fun _ _ _ h => h) (Or.inl ⟨by rfl, (by intro w' hSw; obtain ⟨q0, q1, q2, q3⟩ := unhide HC2 w' hSw; go_simp; first | done | rfl)⟩) (unhide HS0) ?_
      go_simp
      refine wpAnyH_take (i := 7) (oi := _) (v := .int .i64 (b : Int)) rfl (by kernel_rfl) (by kernel_rfl) (by kernel_rfl) (fun _ _ _ h => h) (Or.inl ⟨by rfl, (by intro w' hSw; go_simp; first | done | rfl)⟩) (unhide HS0) ?_
      go_simp
      refine wpAnyH_take (i := 8) (oi := _) (v := .pointer (some ⟨xb, xo + b * 3, none⟩)) rfl (by kernel_rfl) (by kernel_rfl) (by kernel_rfl) (fun _ _ _ h => h) (Or.inl ⟨by rfl, (by intro w' hSw; go_simp; first | done | rfl)⟩) (unhide HS0) ?_
      go_simp
      refine wpAnyH_take (i := 9) (oi := _) (v := .agg #[.int .i64 u.pc, .slice ka M kc, .slice ma NL mc]) rfl (by kernel_rfl) (by kernel_rfl) (by kernel_rfl) (fun _ _ _ h => h) (Or.inl ⟨by rfl, (by intro w' hSw; obtain ⟨m0, m1, m2, m3⟩ := unhide HBD w' hSw; go_simp; first | done | rfl)⟩) (unhide HS0) ?_
      go_simp
      refine wpAnyH_ready (rs := [10]) (by kernel_rfl) (by simp) ?_
      refine AllReadyH.cons (o := _) rfl (fun K hK => ?_) AllReadyH.nil
      go_simp
      refine (unhide HTK).mono ?_
      rintro e Y3 hA
      obtain ⟨g, rfl, b3, hg, hro⟩ := hA
      have HS3 : Hid (Below wr.heap.size wr Y3) := (unhide HS0).trans (b3.mono (unhide HS0).size)
      rw [unhide hnn] at hro ⊢
      have HRO := hide hro
      clear b3 hg hro HTK HS0
      refine hK.out _ _ (unhide HS3) (fun _ => ?_)
      clear hK K
      go_simp
      refine wpAnyH_take (i := 11) (oi := _) (v := .tuple #[.slice (some ⟨g, 0, none⟩) n n, .bool true]) rfl (by kernel_rfl) (by kernel_rfl) (by kernel_rfl) (fun _ _ _ h => h) (Or.inl ⟨by rfl, (by intro w' hSw; go_simp; first | done | rfl)⟩) (unhide HS3) ?_
      go_simp
      refine wpAnyH_take (i := 12) (oi := _) (v := .slice (some ⟨g, 0, none⟩) n n) rfl (by kernel_rfl) (by kernel_rfl) (by kernel_rfl) (fun _ _ _ h => h) (Or.inl ⟨by rfl, (by intro w' hSw; go_simp; first | done | rfl)⟩) (unhide HS3) ?_
      go_simp
      refine wpAnyH_take (i := 13) (oi := _) (v := .bool true) rfl (by kernel_rfl) (by kernel_rfl) (by kernel_rfl) (fun _ _ _ h => h) (Or.inl ⟨by rfl, (by intro w' hSw; go_simp; first | done | rfl)⟩) (unhide HS3) ?_
      go_simp
      refine wpAnyH_take (i := 14) (oi := _) (v := .slice (some ⟨g, 0, none⟩) n n) rfl (by kernel_rfl) (by kernel_rfl) (by kernel_rfl) (fun _ _ _ h => h) (Or.inl ⟨by rfl, (by intro w' hSw; go_simp; first | done | rfl)⟩) (unhide HS3) ?_
      go_simp
      refine wpAnyH_take (i := 15) (oi := _) (v := .bool true) rfl (by kernel_rfl) (by kernel_rfl) (by kernel_rfl) (fun _ _ _ h => h) (Or.inl ⟨by rfl, (by intro w' hSw; go_simp; first | done | rfl)⟩) (unhide HS3) ?_
      go_simp
      refine wpAnyH_done (by kernel_rfl) ?_ _
      have HG3 := hide ((unhide hG).on (unhide HS3))
      clear HC1 HC2 HBC HBD hG HS3
      obtain ⟨RR, hRR⟩ : ∃ z, Hid (wS bl b = z) := ⟨_, hide rfl⟩
      rw [unhide hRR] at HRO
      obtain ⟨WO, hWO⟩ : ∃ z, z = wr := ⟨_, rfl⟩
      clear hWO
      go_wp2_with fail
      go_loopg [8, 7] n (fun gg t8 t7 wr => ∃ (i K : Nat), Hid (i + gg = n ∧ cntK RR u.ins i = K) ∧ t8 = .int .i64 (i : Int) ∧ t7 = .int .i64 (K : Int) ∧ Hid (TwS w fn regs bl (.slice (some ⟨vb, vo, none⟩) L c) (.slice (some ⟨xb, xo, none⟩) L dc) db wr ∧ Ro wr 1 (.slice (some ⟨g, 0, none⟩) n n) n (flt enBo (rowG RR u.ins 0))))
      case atStart => exact ⟨0, 0, ⟨by omega, cntK_zero _ _⟩, rfl, rfl, unhide HG3, unhide HRO⟩
      case round =>
        clear HG3 HRO
        obtain ⟨i, k, hi, rfl, rfl, hJ⟩ := hrel
        by_cases hin : i < n
        · have i0 : (0 : Int) ≤ (i : Int) := by omega
          have i1 : (i : Int) < (n : Int) := by omega
          have hil : i < u.ins.length := by rw [unhide hnn]; exact hin
          obtain ⟨x, hx⟩ : ∃ x, u.ins[i]? = some x := ⟨_, List.getElem?_eq_getElem hil⟩
          obtain ⟨gg, goff, gcap, eg, _, _, hgb, hgc⟩ := (unhide hJ).2.full (by omega)
          cases eg
          have hrc := hgc i (by omega)
          have hrv : (flt enBo (rowG RR u.ins 0))[i]? = some (.bool (gone RR u.ins i)) := by
            have q := flt_at zBo (rowG_at RR u.ins 0 hil) 0 (by omega)
            simpa [enBo] using q
          rw [hrv, Nat.zero_add] at hrc
          have HX := hide hx
          clear hgc hrv hx
          cases hg : gone RR u.ins i with
          | true =>
            rw [hg] at hrc
            have hcg := cntK_gone (unhide HX) hg
            have HK2 : Hid (i + 1 + (gk - 1) = n ∧ cntK RR u.ins (i + 1) = k) := by have q := unhide hi; exact ⟨by omega, by rw [hcg]; exact q.2⟩
            clear hg hcg
            go_wp2_with fail
            go_roundg (gk - 1)
            case measure => have := (unhide hi).1; omega
            case rel => exact ⟨i + 1, k, HK2, by go_num, rfl, hJ⟩
          | false =>
            rw [hg] at hrc
            have hcs := cntK_stay (unhide HX) hg
            have HK2 : Hid (i + 1 + (gk - 1) = n ∧ cntK RR u.ins (i + 1) = k + 1) := by have q := unhide hi; exact ⟨by omega, by rw [hcs.1, q.2]⟩
            have hkn : k ≤ 1048576 := by have q := (List.getElem?_eq_some_iff.1 hcs.2).1; have q2 := (unhide hi).2; have q3 := kepL_len RR u.ins; rw [unhide hnn] at q3; omega
            obtain ⟨AL, hAL⟩ : ∃ AL, Hid (aft bl (b : Int) (i : Int) = AL) := ⟨_, hide rfl⟩
            have hA2 : aft (kepC bl) (b : Int) (k : Int) = AL := by
              have q := aft_stay (unhide HU) (unhide HX) (by rw [unhide hRR]; exact hg)
              rw [unhide hRR, (unhide hi).2] at q
              rw [q, unhide hAL]
            obtain ⟨AN, hAN⟩ : ∃ AN, Hid (AL.length = AN) := ⟨_, hide rfl⟩
            have hAN5 : AL.length ≤ 512 := by rw [← unhide hAL]; exact aft_len _ _ _
            obtain ⟨Y2, hY2⟩ : ∃ z, Hid (wr.drew = z) := ⟨_, hide rfl⟩
            have HS0 : Hid (Below wr.heap.size wr Y2) := by rw [← unhide hY2]; exact bl_drew wr
            have HC1 : Hid (∀ V, Below wr.heap.size wr V → w.heap.size < V.heap.size ∧ V.cell? ⟨w.heap.size, 0, none⟩ = some (.int .i64 fn) ∧ V.cell? ⟨w.heap.size, 1, none⟩ = some (.int .i64 regs) ∧ V.cell? ⟨w.heap.size, 2, none⟩ = some (.slice (some ⟨vb, vo, none⟩) L c)) := fun V hV => ((unhide hJ).1.on hV).c1
            have HC2 : Hid (∀ V, Below wr.heap.size wr V → db < V.heap.size ∧ V.cell? ⟨db, 0, none⟩ = some (.int .i64 fn) ∧ V.cell? ⟨db, 1, none⟩ = some (.int .i64 regs) ∧ V.cell? ⟨db, 2, none⟩ = some (.slice (some ⟨xb, xo, none⟩) L dc)) := fun V hV => ((unhide hJ).1.on hV).c2
            have HA1 := hide (after_any (w := Y2) (fn := fn) (regs := regs) ((unhide hJ).1.on (unhide HS0)).i (by rw [unhide hL]; exact hN) (unhide HO) ((unhide hJ).1.on (unhide HS0)).tt (b : Int) (i : Int))
            rw [unhide hAL] at HA1
            have HAD : Hid (∀ V, Below wr.heap.size wr V → Calls Tryd.prog 9 #[.agg #[.int .i64 fn, .int .i64 regs, .slice (some ⟨xb, xo, none⟩) L dc], .int .i64 (b : Int), .int .i64 (k : Int)] V (NP V AL)) := fun V hV => by
              have q := after_any (w := V) (fn := fn) (regs := regs) ((unhide hJ).1.on hV).d (by rw [unhide HKL]; exact hN) (unhide HOK) ((unhide hJ).1.on hV).tt (b : Int) (k : Int)
              rw [hA2] at q
              exact q
            clear hg hcs hA2
            go_wp2_with fail
            refine wp_region_held_drew (S := fun V => Below wr.heap.size wr V) (by kernel_rfl) (by rw [unhide hY2]; exact unhide HS0) (fun hHeld => ?_)
            clear hHeld
            rw [unhide hY2]
            clear hY2 hrc hgb
            refine wpAnyH_take (i := 0) (oi := _) (v := .agg #[.int .i64 fn, .int .i64 regs, .slice (some ⟨vb, vo, none⟩) L c]) rfl (by kernel_rfl) (by kernel_rfl) (by kernel_rfl) (fun _ _ _ h => h) (Or.inl ⟨by rfl, (by intro w' hSw; obtain ⟨q0, q1, q2, q3⟩ := unhide HC1 w' hSw; go_simp; first | done | rfl)⟩) (unhide HS0) ?_
            go_simp
            refine wpAnyH_take (i := 1) (oi := _) (v := .int .i64 (b : Int)) rfl (by kernel_rfl) (by kernel_rfl) (by kernel_rfl) (fun _ _ _ h => h) (Or.inl ⟨by rfl, (by intro w' hSw; go_simp; first | done | rfl)⟩) (unhide HS0) ?_
            go_simp
            refine wpAnyH_take (i := 2) (oi := _) (v := .int .i64 (i : Int)) rfl (by kernel_rfl) (by kernel_rfl) (by kernel_rfl) (fun _ _ _ h => h) (Or.inl ⟨by rfl, (by intro w' hSw; go_simp; first | done | rfl)⟩) (unhide HS0) ?_
            go_simp
            refine wpAnyH_take (i := 4) (oi := _) (v := .agg #[.int .i64 fn, .int .i64 regs, .slice (some ⟨xb, xo, none⟩) L dc]) rfl (by kernel_rfl) (by kernel_rfl) (by kernel_rfl) (fun _ _ _ h => h) (Or.inl ⟨by rfl, (by intro w' hSw; obtain ⟨q0, q1, q2, q3⟩ := unhide HC2 w' hSw; go_simp; first | done | rfl)⟩) (unhide HS0) ?_
            go_simp
            refine wpAnyH_take (i := 5) (oi := _) (v := .int .i64 (b : Int)) rfl (by kernel_rfl) (by kernel_rfl) (by kernel_rfl) (fun _ _ _ h => h) (Or.inl ⟨by rfl, (by intro w' hSw; go_simp; first | done | rfl)⟩) (unhide HS0) ?_
            go_simp
            refine wpAnyH_take (i := 6) (oi := _) (v := .int .i64 (k : Int)) rfl (by kernel_rfl) (by kernel_rfl) (by kernel_rfl) (fun _ _ _ h => h) (Or.inl ⟨by rfl, (by intro w' hSw; go_simp; first | done | rfl)⟩) (unhide HS0) ?_
            go_simp
            refine wpAnyH_ready (rs := [3]) (by kernel_rfl) (by simp) ?_
            refine AllReadyH.cons (o := _) rfl (fun K hK => ?_) AllReadyH.nil
            go_simp
            refine (unhide HA1).mono ?_
            rintro e Y3 ⟨ya, yc, rfl, hy⟩
            have HS3 : Hid (Below wr.heap.size wr Y3) := (unhide HS0).trans (hy.bel.mono (unhide HS0).size)
            have HY := hide hy
            rw [unhide hAN] at HY ⊢
            have HA2 := hide (unhide HAD Y3 (unhide HS3))
            clear hy HA1 HS0
            refine hK.out _ _ (unhide HS3) (fun _ => ?_)
            clear hK K
            go_simp
            refine wpAnyH_ready (rs := [7]) (by kernel_rfl) (by simp) ?_
            refine AllReadyH.cons (o := _) rfl (fun K hK => ?_) AllReadyH.nil
            go_simp
            refine (unhide HA2).mono ?_
            rintro e Y4 ⟨xa, xc, rfl, hx⟩
            have HS4 : Hid (Below wr.heap.size wr Y4) := (unhide HS3).trans (hx.bel.mono (unhide HS3).size)
            have HSN := hide (sameN_yes (l := AL) ((unhide HY).on hx.bel).row hx.row (by omega))
            rw [unhide hAN] at HSN ⊢
            clear hx HY HA2 HS3
            refine hK.out _ _ (unhide HS4) (fun _ => ?_)
            clear hK K
            go_simp
            refine wpAnyH_ready (rs := [8]) (by kernel_rfl) (by simp) ?_
            refine AllReadyH.cons (o := _) rfl (fun K hK => ?_) AllReadyH.nil
            go_simp
            refine (unhide HSN).mono ?_
            rintro e Y5 ⟨rfl, b5⟩
            have HS5 : Hid (Below wr.heap.size wr Y5) := (unhide HS4).trans (b5.mono (unhide HS4).size)
            clear b5 HSN HS4
            refine hK.out _ _ (unhide HS5) (fun _ => ?_)
            clear hK K
            go_simp
            refine wpAnyH_take (i := 9) (oi := _) (v := .bool false) rfl (by kernel_rfl) (by kernel_rfl) (by kernel_rfl) (fun _ _ _ h => h) (Or.inl ⟨by rfl, (by intro w' hSw; go_simp; first | done | rfl)⟩) (unhide HS5) ?_
            go_simp
            refine wpAnyH_done (by kernel_rfl) ?_ _
            have HJ5 : Hid (TwS w fn regs bl (.slice (some ⟨vb, vo, none⟩) L c) (.slice (some ⟨xb, xo, none⟩) L dc) db Y5 ∧ Ro Y5 1 (.slice (some ⟨g, 0, none⟩) n n) n (flt enBo (rowG RR u.ins 0))) := ⟨(unhide hJ).1.on (unhide HS5), (unhide hJ).2.fr (Fr.of_below (S := fun _ => False) (unhide HS5)) (fun _ _ e => e)⟩
            clear HC1 HC2 HS5 hJ HAD
            go_wp2_with fail
            go_roundg (gk - 1)
            case measure => have := (unhide hi).1; omega
            case rel => exact ⟨i + 1, k + 1, HK2, by go_num, by go_num, HJ5⟩
        · have i1 : ¬ (i : Int) < (n : Int) := by omega
          have HJ5 := hide (unhide hJ).1
          clear hJ
          go_wp2_with fail
          go_roundg (L - (b + 1))
          case measure => have := unhide hb; omega
          case rel => exact ⟨b + 1, by have := unhide hb; unfold Hid; omega, by go_num, HJ5⟩
    · have hbL : L = b := by have := unhide hb; omega
      have b1 : ¬ (b : Int) < (L : Int) := by omega
      have HSH := hide (shown_any (unhide hG).tt)
      have HBW := hide (unhide hG).bw
      clear hbL hG
      go_wp2_with fail
      refine (unhide HSH).mono ?_
      rintro e Z ⟨rfl, bz⟩
      have HZ := hide (bl_past (unhide HBW) bz)
      clear bz
      go_wp2_with fail
      go_ret
      exact ⟨rfl, unhide HZ⟩
end Go.Proofs.YtpbdmbmafjkinaaDoor
