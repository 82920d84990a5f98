/-
  LiveWays' law.
-/
import Derived.Test.YtpbdmbmafjkinaaDoorWy3
namespace Go.Proofs.YtpbdmbmafjkinaaDoor
open Go.RowKit
set_option linter.unusedVariables false
set_option linter.unusedSimpArgs false
theorem eqB_tf (w : World) : (binOp .eql 4 (.bool true) (.bool false)).run Tryd.prog w = .ok (.bool false) w := by kernel_rfl
theorem eqB_nv {m v : Bool} (h : (!m) = v) (w : World) : (binOp .eql 4 (.bool v) (.bool m)).run Tryd.prog w = .ok (.bool false) w := by subst h; cases m <;> kernel_rfl
theorem eqB_ft (w : World) : (binOp .eql 4 (.bool false) (.bool true)).run Tryd.prog w = .ok (.bool false) w := by kernel_rfl
/-- The rows that were found so far. -/
structure WaS (bl : List Bk) (X : World) (b : Nat) (ov : Value) (vs : List Value) (V : World) : Prop where
  bel : Below X.heap.size X V
  row : Ro V 1 ov b (flt enV vs)
  len : vs.length = b
  own : ∀ k, ov.ownBlock = some k → X.heap.size ≤ k
  el : ∀ (j : Nat) (u : Bk) (v : Value), bl[j]? = some u → vs[j]? = some v → ∃ g, v = .slice (some ⟨g, 0, none⟩) u.ins.length u.ins.length ∧ Ro V 1 v u.ins.length (flt enBo (rowG (wS bl j) u.ins 0)) ∧ ∀ k, ov.ownBlock = some k → k ≠ g
section
variable {bl : List Bk} {X : World} {b : Nat} {ov : Value} {vs : List Value} {V V' : World}
theorem WaS.on (h : WaS bl X b ov vs V) (f : Below V.heap.size V V') : WaS bl X b ov vs V' :=
  ⟨bl_past h.bel f, h.row.fr (Fr.of_below (S := fun _ => False) f) (fun _ _ e => e), h.len, h.own, fun j u v hu hv => by
    obtain ⟨g, e, q, r⟩ := h.el j u v hu hv
    exact ⟨g, e, q.fr (Fr.of_below (S := fun _ => False) f) (fun _ _ e => e), r⟩⟩
theorem WaS.push {u : Bk} {g : Nat} (h : WaS bl X b ov vs V) (f : Below V.heap.size V V') (hu : bl[b]? = some u) (hg : V.heap.size ≤ g) (hr : Ro V' 1 (.slice (some ⟨g, 0, none⟩) u.ins.length u.ins.length) u.ins.length (flt enBo (rowG (wS bl b) u.ins 0))) (hb : b ≤ 1048576) : ∃ va vc ya yc w1, ov = .slice va b vc ∧ (Builtin.append_ #[41, 41] 41 #[.slice va b vc, .slice (some ⟨V'.heap.size, 0, none⟩) 1 1]).run Tryd.prog (V'.alloc (.cells #[.slice (some ⟨g, 0, none⟩) u.ins.length u.ins.length] 42)) = .ok (.slice ya (b + 1) yc) w1 ∧ WaS bl X (b + 1) (.slice ya (b + 1) yc) (vs ++ [.slice (some ⟨g, 0, none⟩) u.ins.length u.ins.length]) w1 := by
  have h2 := h.on f
  obtain ⟨va, vc, ya, yc, w1, e, hrun, r1, r2, r3⟩ := app73 (X := V') h2.row (u := .slice (some ⟨g, 0, none⟩) u.ins.length u.ins.length) rfl (by omega)
  have hB := box1n V' (.cells #[.slice (some ⟨g, 0, none⟩) u.ins.length u.ins.length] 42)
  have f1 : Fr (fun k => ov.ownBlock = some k) (V'.alloc (.cells #[.slice (some ⟨g, 0, none⟩) u.ins.length u.ins.length] 42)) w1 := (Fr.refl _ _).grown r2 (fun k e => .inr e)
  have hs := h2.bel.size
  have hlt : ∀ k, ov.ownBlock = some k → k < V.heap.size := fun k hk => h.row.lt k hk
  have hgl : g < V'.heap.size := hr.lt g rfl
  have hfs := f.size
  have hnw : ∀ k, (Value.slice ya (b + 1) yc).ownBlock = some k → ov.ownBlock = some k ∨ k = V'.heap.size + 1 := fun k hk => by
    rcases r3 with q | q
    · exact .inl (by rw [← q]; exact hk)
    · rw [q] at hk; cases hk; exact .inr (by simp)
  refine ⟨va, vc, ya, yc, w1, e, hrun, (h2.bel.trans (hB.mono hs)).trans (f1.below (by simp; omega) (fun k hk e => by have := h.own k e; omega)), by rw [flt_append, flt_one]; exact r1, by rw [List.length_append, h.len]; rfl, fun k hk => ?_, fun j z v hz hv => ?_⟩
  · rcases hnw k hk with q | q
    · exact h.own k q
    · omega
  · by_cases hj : j < vs.length
    · rw [List.getElem?_append_left hj] at hv
      obtain ⟨g', e', q, r⟩ := h2.el j z v hz hv
      have hg' : g' < V'.heap.size := by subst e'; exact q.lt g' rfl
      refine ⟨g', e', (q.fr (Fr.of_below (S := fun _ => False) hB) (fun _ _ e => e)).fr f1 (fun k hk e => ?_), fun k hk => ?_⟩
      · subst e'; cases hk; exact r g' e rfl
      · rcases hnw k hk with q2 | q2
        · exact r k q2
        · omega
    · have hjb : j = b := by
        have := (List.getElem?_eq_some_iff.1 hv).1
        rw [List.length_append] at this
        have := h.len
        simp at *
        omega
      subst hjb
      rw [hu] at hz; cases hz
      rw [List.getElem?_append_right (by have := h.len; omega), show j - vs.length = 0 by have := h.len; omega] at hv
      cases hv
      refine ⟨g, rfl, (hr.fr (Fr.of_below (S := fun _ => False) hB) (fun _ _ e => e)).fr f1 (fun k hk e => ?_), fun k hk => ?_⟩
      · cases hk; have := hlt g e; omega
      · rcases hnw k hk with q2 | q2
        · have := hlt k q2; omega
        · omega
theorem WaS.out (h : WaS bl X bl.length ov vs V) {b : Nat} {u : Bk} (hu : bl[b]? = some u) : ∃ ob oo oc, ov = .slice (some ⟨ob, oo, none⟩) bl.length oc ∧ OutV V bl ob oo := by
  have hbl := (List.getElem?_eq_some_iff.1 hu).1
  have hro := h.row
  rw [← h.len] at hro
  have hat : ∀ j, j < bl.length → ∃ v, vs[j]? = some v := fun j hj => ⟨_, List.getElem?_eq_getElem (by rw [h.len]; exact hj)⟩
  obtain ⟨v0, hv0⟩ := hat b hbl
  obtain ⟨ob, oo, oc, e, _, _, hb, _⟩ := (Rx.of_ro hro).elem zV hv0
  rw [h.len] at e
  refine ⟨ob, oo, oc, e, hb, fun j z hz => ?_⟩
  obtain ⟨v, hv⟩ := hat j (List.getElem?_eq_some_iff.1 hz).1
  obtain ⟨ob', oo', oc', e', _, _, _, hc⟩ := (Rx.of_ro hro).elem zV hv
  rw [h.len, e] at e'
  cases e'
  obtain ⟨g, rfl, q, _⟩ := h.el j z v hz hv
  refine ⟨g, ?_, q⟩
  have q2 := hc 0 _ rfl
  simpa using q2
end
/-- Is it in, and asked for? Then it stays. -/
theorem gone_in {bl : List Bk} {b i : Nat} {u : Bk} {x : RIn} (hx : u.ins[i]? = some x) (hq : quiet x = true) : gone (wS bl b) u.ins i = !inS (backL (wS bl b) (u.ins.drop (i + 1))) x.dst := by
  rw [gone_at _ hx]
  unfold idle
  rw [hq]
  rfl
theorem inS_no {S : Rset} (hs : Sup S) {d : Int} (h : ¬ (0 ≤ d ∧ d < 512)) : inS S d = false := by
  unfold inS
  by_cases h0 : 0 ≤ d
  · rw [hs d.toNat (by omega)]; simp
  · simp [h0]
set_option maxRecDepth 100000 in
set_option maxHeartbeats 25600000 in
theorem waysLaw {w : World} {fn regs : Int} {bl : List Bk} {v : Value} (h : BksV (fun k => k < w.heap.size) w bl v) (hO : ∀ b ∈ bl, OkL b) (hN : bl.length ≤ 1048576) (hT : TT w) :
    Calls Tryd.prog 5 #[.agg #[.int .i64 fn, .int .i64 regs, v]] w fun e w' => e = .returned (.bool true) ∧ Below w.heap.size w w' := by
  obtain ⟨a, c, rfl, ha1, ha2⟩ := NV.shape h
  obtain ⟨L, hL⟩ : ∃ L, Hid (bl.length = L) := ⟨_, hide rfl⟩
  rw [unhide hL] at h hN ha1 ⊢
  have HO := hide hO
  have HOK : Hid (∀ b ∈ kepC bl, OkL b) := kepC_okT hO
  have HKL : Hid ((kepC bl).length = L) := by unfold Hid; rw [kepC_len, unhide hL]
  obtain ⟨W, hW0⟩ : ∃ W0, Hid (w.alloc (.cells #[.int .i64 fn, .int .i64 regs, .slice a L c] 24) = W0) := ⟨_, hide rfl⟩
  have HWb : Hid (Below w.heap.size w W) := by rw [← unhide hW0]; exact box1n w _
  have hbx := heap_alloc_new w (.cells #[.int .i64 fn, .int .i64 regs, .slice a L c] 24)
  rw [unhide hW0] at hbx
  have HBX := hide hbx
  have HI := hide (BksV.mv.bel h (unhide HWb))
  have HT := hide (hT.below hT.1 (unhide HWb))
  have hW0' := unhide hW0
  have HRU := hide (run_any (fn := fn) (regs := regs) (unhide HI) (unhide HO) (by rw [unhide hL]; exact hN))
  unfold maxLen at ha2
  have x0 := (blk_cells hbx).1 0
  have x1 := (blk_cells hbx).1 1
  have x2 := (blk_cells hbx).1 2
  have xl := (blk_cells hbx).2.2
  simp at x0 x1 x2
  clear h hO hT hbx
  go_enter Tryd.func5, Tryd.ntmps5
  go_wp2_with fail
  clear x0 x1 x2 xl hW0' hW0
  refine (unhide HRU).mono ?_
  rintro e W1 hA
  obtain ⟨da, dc, Td, rfl, hd1, hd2, b1, od⟩ := hA.at
  rw [unhide HKL] at hd1 od ⊢
  obtain ⟨X0, hX0⟩ : ∃ z, Hid (W1.alloc (.cells #[.int .i64 0, .int .i64 0, .slice none 0 0] 24) = z) := ⟨_, hide rfl⟩
  have hn := heap_alloc_new W1 (.cells #[.int .i64 0, .int .i64 0, .slice none 0 0] 24)
  rw [unhide hX0] at hn
  have x0 := (blk_cells hn).1 0
  have x1 := (blk_cells hn).1 1
  have x2 := (blk_cells hn).1 2
  have y0 := (blk_cells hn).2.1 0
  have y1 := (blk_cells hn).2.1 1
  have y2 := (blk_cells hn).2.1 2
  have yl := (blk_cells hn).2.2
  simp at x0 x1 x2
  obtain ⟨X, hX⟩ : ∃ z, Hid (((X0.setCell ⟨W1.heap.size, 0, none⟩ (.int .i64 fn)).setCell ⟨W1.heap.size, 1, none⟩ (.int .i64 regs)).setCell ⟨W1.heap.size, 2, none⟩ (.slice da L dc) = z) := ⟨_, hide rfl⟩
  have hcb := cboxG W1 fn regs (.slice da L dc) (X0 := X0) (X := X) (unhide hX0) (unhide hX)
  have hbel : Below W1.heap.size W1 X := hcb.1
  have HS : Hid (TwS w fn regs bl (.slice a L c) (.slice da L dc) W1.heap.size X) := ⟨bl_past (bl_past (unhide HWb) b1) hbel, keepB hbel (keepB b1 (unhide HBX)), hcb.2, BksV.mv.bel (BksV.mv.bel (unhide HI) b1) hbel, BksV.mv.bel (BksV.of_ow od) hbel, ((unhide HT).below (unhide HT).1 b1).below ((unhide HT).below (unhide HT).1 b1).1 hbel⟩
  obtain ⟨m0, m1, m2, m3⟩ := (unhide HS).c1
  obtain ⟨n0, n1, n2, n3⟩ := (unhide HS).c2
  have hX0' := unhide hX0
  have hX' := unhide hX
  clear hn hcb hbel od b1 hA HRU HI HT HBX HWb
  go_wp2_with fail
  clear hX0' hX0 hX' hX x0 x1 x2 y0 y1 y2 yl m0 m1 m2 m3 n0 n1 n2 n3
  obtain ⟨db, hdb⟩ : ∃ z, Hid (W1.heap.size = z) := ⟨_, hide rfl⟩
  rw [unhide hdb] at HS ⊢
  clear hdb
  have HW0 : Hid (WaS bl X 0 (.slice none 0 0) [] X) := ⟨Below.refl _ _, Ro.nil X 1, rfl, fun k hk => (by cases hk), fun j u v hu hv => by simp at hv⟩
  have HSX : Hid (∀ V, Below X.heap.size X V → TwS w fn regs bl (.slice a L c) (.slice da L dc) db V) := fun V hV => (unhide HS).on hV
  go_loopg [5, 4] L (fun gg t5 t4 wr => ∃ (b : Nat) (oa : Option Addr) (on oc : Nat) (vs : List Value), Hid (b + gg = L ∧ on = b) ∧ t5 = .int .i64 (b : Int) ∧ t4 = .slice oa on oc ∧ Hid (WaS bl X b (.slice oa on oc) vs wr))
  case atStart => exact ⟨0, none, 0, 0, [], ⟨by omega, rfl⟩, rfl, rfl, HW0⟩
  case round =>
    clear HW0
    obtain ⟨b, oa, on, ocp, vs, hb, rfl, rfl, hA⟩ := hrel
    have hG : Hid (TwS w fn regs bl (.slice a L c) (.slice da L dc) db wr) := unhide HSX wr (unhide hA).bel
    obtain ⟨e0, e1, e2, e3⟩ := (unhide hG).c1
    by_cases hlt : b < L
    · have b0 : (0 : Int) ≤ (b : Int) := by omega
      have b1 : (b : Int) < (L : Int) := by omega
      obtain ⟨u, hu⟩ : ∃ u, bl[b]? = some u := ⟨_, List.getElem?_eq_getElem (by rw [unhide hL]; exact hlt)⟩
      have hku := kepC_at hu
      obtain ⟨vb, vo, ia, ic, na, nc, ea, hvb, hIns, hNx, hic, hnc, hicl, hncl, hcc⟩ := (unhide hG).i.blk hu
      obtain ⟨xb, xo, ka, kc, ma, mc, ex, hxb, hKns, hMx, hkc, hmc, hkcl, hmcl, hcd⟩ := (unhide hG).d.blk hku
      subst ea ex
      simp only at hKns hMx hkcl hmcl hcd
      have HTK := hide (fun V (hV : Below wr.heap.size wr V) => taken_any (w := V) (r := ⟨u.pc, .slice ia u.ins.length ic, .slice na u.nx.length nc⟩) (q := ⟨u.pc, .slice ka (kepL (wS bl b) u.ins).length kc, .slice ma u.nx.length mc⟩) (BkP.mv _ _ _ _ _ _ _ (show BkP (fun k => k < w.heap.size) wr u _ from ⟨rfl, hIns, hNx⟩) (Fr.of_below (S := fun _ => False) hV) (fun k hk d => ⟨fun e => e, d⟩)) (BkP.mv _ _ _ _ _ _ _ (show BkP (fun _ => True) wr ⟨u.pc, kepL (wS bl b) u.ins, u.nx⟩ _ from ⟨rfl, hKns, hMx⟩) (Fr.of_below (S := fun _ => False) hV) (fun k hk d => ⟨fun e => e, d⟩)) (unhide HO u (List.mem_of_getElem? hu)))
      obtain ⟨n, hnn⟩ : ∃ z, Hid (u.ins.length = z) := ⟨_, hide rfl⟩
      obtain ⟨M, hM⟩ : ∃ z, Hid ((kepL (wS bl b) u.ins).length = z) := ⟨_, hide rfl⟩
      obtain ⟨NL, hNL⟩ : ∃ z, Hid (u.nx.length = z) := ⟨_, hide rfl⟩
      unfold bkV at HTK
      dsimp only at HTK
      rw [unhide hnn, unhide hNL] at HTK hcc
      rw [unhide hM] at HTK hcd
      rw [unhide hNL] at hcd
      have HU := hide hu
      have HC1 : Hid (∀ V, Below wr.heap.size wr V → w.heap.size < V.heap.size ∧ V.cell? ⟨w.heap.size, 0, none⟩ = some (.int .i64 fn) ∧ V.cell? ⟨w.heap.size, 1, none⟩ = some (.int .i64 regs) ∧ V.cell? ⟨w.heap.size, 2, none⟩ = some (.slice (some ⟨vb, vo, none⟩) L c)) := fun V hV => ((unhide hG).on hV).c1
      have HC2 : Hid (∀ V, Below wr.heap.size wr V → db < V.heap.size ∧ V.cell? ⟨db, 0, none⟩ = some (.int .i64 fn) ∧ V.cell? ⟨db, 1, none⟩ = some (.int .i64 regs) ∧ V.cell? ⟨db, 2, none⟩ = some (.slice (some ⟨xb, xo, none⟩) L dc)) := fun V hV => ((unhide hG).on hV).c2
      have HBC := hide hcc
      have HBD := hide hcd
      clear hu hku hIns hNx hKns hMx hcc hcd
      go_wp2_with fail
      clear e0 e1 e2 e3
      obtain ⟨Y2, hY2⟩ : ∃ z, Hid (wr.drew = z) := ⟨_, hide rfl⟩
      have HS0 : Hid (Below wr.heap.size wr Y2) := by rw [← unhide hY2]; exact bl_drew wr
      have hsz0 := (unhide HS0).size
      have HTK2 := hide (unhide HTK Y2 (unhide HS0))
      clear HTK
      have HTK := HTK2
      clear HTK2
      refine wp_region_held_drew (S := fun V => Below wr.heap.size wr V) (by kernel_rfl) (by rw [unhide hY2]; exact unhide HS0) (fun hHeld => ?_)
      clear hHeld
      rw [unhide hY2]
      clear hY2
      refine wpAnyH_take (i := 0) (oi := _) (v := .pointer (some ⟨w.heap.size, 2, none⟩)) rfl (by kernel_rfl) (by kernel_rfl) (by kernel_rfl) (fun _ _ _ h => h) (Or.inl ⟨by rfl, (by intro w' hSw; go_simp; first | done | rfl)⟩) (unhide HS0) ?_
      go_simp
      refine wpAnyH_take (i := 1) (oi := _) (v := .slice (some ⟨vb, vo, none⟩) L c) rfl (by kernel_rfl) (by kernel_rfl) (by kernel_rfl) (fun _ _ _ h => h) (Or.inl ⟨by rfl, (by intro w' hSw; obtain ⟨q0, q1, q2, q3⟩ := unhide HC1 w' hSw; go_simp; first | done | rfl)⟩) (unhide HS0) ?_
      go_simp
      refine wpAnyH_take (i := 2) (oi := _) (v := .int .i64 (b : Int)) rfl (by kernel_rfl) (by kernel_rfl) (by kernel_rfl) (fun _ _ _ h => h) (Or.inl ⟨by rfl, (by intro w' hSw; go_simp; first | done | rfl)⟩) (unhide HS0) ?_
      go_simp
      refine wpAnyH_take (i := 3) (oi := _) (v := .pointer (some ⟨vb, vo + b * 3, none⟩)) rfl (by kernel_rfl) (by kernel_rfl) (by kernel_rfl) (fun _ _ _ h => h) (Or.inl ⟨by rfl, (by intro w' hSw; go_simp; first | done | rfl)⟩) (unhide HS0) ?_
      go_simp
      refine wpAnyH_take (i := 4) (oi := _) (v := .agg #[.int .i64 u.pc, .slice ia n ic, .slice na NL nc]) rfl (by kernel_rfl) (by kernel_rfl) (by kernel_rfl) (fun _ _ _ h => h) (Or.inl ⟨by rfl, (by intro w' hSw; obtain ⟨m0, m1, m2, m3⟩ := unhide HBC w' hSw; go_simp; first | done | rfl)⟩) (unhide HS0) ?_
      go_simp
      refine wpAnyH_take (i := 5) (oi := _) (v := .pointer (some ⟨db, 2, none⟩)) rfl (by kernel_rfl) (by kernel_rfl) (by kernel_rfl) (fun _ _ _ h => h) (Or.inl ⟨by rfl, (by intro w' hSw; go_simp; first | done | rfl)⟩) (unhide HS0) ?_
      go_simp
      refine wpAnyH_take (i := 6) (oi := _) (v := .slice (some ⟨xb, xo, none⟩) L dc) rfl (by kernel_rfl) (by kernel_rfl) (by kernel_rfl) (fun _ _ _ h => h) (Or.inl ⟨by rfl, (by intro w' hSw; obtain ⟨q0, q1, q2, q3⟩ := unhide HC2 w' hSw; go_simp; first | done | rfl)⟩) (unhide HS0) ?_
      go_simp
      refine wpAnyH_take (i := 7) (oi := _) (v := .int .i64 (b : Int)) rfl (by kernel_rfl) (by kernel_rfl) (by kernel_rfl) (fun _ _ _ h => h) (Or.inl ⟨by rfl, (by intro w' hSw; go_simp; first | done | rfl)⟩) (unhide HS0) ?_
      go_simp
      refine wpAnyH_take (i := 8) (oi := _) (v := .pointer (some ⟨xb, xo + b * 3, none⟩)) rfl (by kernel_rfl) (by kernel_rfl) (by kernel_rfl) (fun _ _ _ h => h) (Or.inl ⟨by rfl, (by intro w' hSw; go_simp; first | done | rfl)⟩) (unhide HS0) ?_
      go_simp
      refine wpAnyH_take (i := 9) (oi := _) (v := .agg #[.int .i64 u.pc, .slice ka M kc, .slice ma NL mc]) rfl (by kernel_rfl) (by kernel_rfl) (by kernel_rfl) (fun _ _ _ h => h) (Or.inl ⟨by rfl, (by intro w' hSw; obtain ⟨m0, m1, m2, m3⟩ := unhide HBD w' hSw; go_simp; first | done | rfl)⟩) (unhide HS0) ?_
      go_simp
      refine wpAnyH_ready (rs := [10]) (by kernel_rfl) (by simp) ?_
      refine AllReadyH.cons (o := _) rfl (fun K hK => ?_) AllReadyH.nil
      go_simp
      refine (unhide HTK).mono ?_
      rintro e Y3 hA
      obtain ⟨g, rfl, b3, hg, hro⟩ := hA
      have HS3 : Hid (Below wr.heap.size wr Y3) := (unhide HS0).trans (b3.mono (unhide HS0).size)
      rw [unhide hnn] at hro ⊢
      have HRO := hide hro
      have HGL : Hid (wr.heap.size ≤ g) := Nat.le_trans hsz0 hg
      clear b3 hg hro HTK HS0
      refine hK.out _ _ (unhide HS3) (fun _ => ?_)
      clear hK K
      go_simp
      refine wpAnyH_take (i := 11) (oi := _) (v := .tuple #[.slice (some ⟨g, 0, none⟩) n n, .bool true]) rfl (by kernel_rfl) (by kernel_rfl) (by kernel_rfl) (fun _ _ _ h => h) (Or.inl ⟨by rfl, (by intro w' hSw; go_simp; first | done | rfl)⟩) (unhide HS3) ?_
      go_simp
      refine wpAnyH_take (i := 12) (oi := _) (v := .slice (some ⟨g, 0, none⟩) n n) rfl (by kernel_rfl) (by kernel_rfl) (by kernel_rfl) (fun _ _ _ h => h) (Or.inl ⟨by rfl, (by intro w' hSw; go_simp; first | done | rfl)⟩) (unhide HS3) ?_
      go_simp
      refine wpAnyH_take (i := 13) (oi := _) (v := .bool true) rfl (by kernel_rfl) (by kernel_rfl) (by kernel_rfl) (fun _ _ _ h => h) (Or.inl ⟨by rfl, (by intro w' hSw; go_simp; first | done | rfl)⟩) (unhide HS3) ?_
      go_simp
      refine wpAnyH_take (i := 14) (oi := _) (v := .slice (some ⟨g, 0, none⟩) n n) rfl (by kernel_rfl) (by kernel_rfl) (by kernel_rfl) (fun _ _ _ h => h) (Or.inl ⟨by rfl, (by intro w' hSw; go_simp; first | done | rfl)⟩) (unhide HS3) ?_
      go_simp
      refine wpAnyH_take (i := 15) (oi := _) (v := .bool true) rfl (by kernel_rfl) (by kernel_rfl) (by kernel_rfl) (fun _ _ _ h => h) (Or.inl ⟨by rfl, (by intro w' hSw; go_simp; first | done | rfl)⟩) (unhide HS3) ?_
      go_simp
      refine wpAnyH_done (by kernel_rfl) ?_ _
      have hon := (unhide hb).2
      obtain ⟨va, vc, ya, yc, w1, eo, hrun, hA2⟩ := WaS.push (V := wr) (V' := Y3) (g := g) (by rw [hon] at hA; exact unhide hA) (unhide HS3) (unhide HU) (unhide HGL) (by rw [unhide hnn]; exact unhide HRO) (by omega)
      obtain ⟨rfl, rfl⟩ : oa = va ∧ ocp = vc := by cases eo; exact ⟨rfl, rfl⟩
      rw [unhide hnn] at hrun hA2
      have HRUN := hide hrun
      have HA2 := hide hA2
      have hon2 : on = b := hon
      subst hon2
      clear HC1 HC2 HBC HBD hG HS3 hrun hA2 eo hon
      go_wp2_with (first | (at_builtin; refine wpList_appRunC rfl _ _ rfl rfl rfl (unhide HRUN) ?_))
      go_roundg (gk - 1)
      case measure => have := (unhide hb).1; omega
      case rel => exact ⟨on + 1, _, _, _, _, ⟨by have := (unhide hb).1; omega, rfl⟩, by go_num, rfl, HA2⟩
    · have hbL : b = L := by have := (unhide hb).1; omega
      have hon := (unhide hb).2
      have b1 : ¬ (b : Int) < (L : Int) := by omega
      subst hbL
      subst hon
      have hA3 := unhide hA
      have HP0 : Hid (Below wr.heap.size wr wr) := Below.refl _ _
      have HTW : Hid (∀ V, Below wr.heap.size wr V → TwS w fn regs bl (.slice a on c) (.slice da on dc) db V) := fun V hV => (unhide hG).on hV
      have HOU : Hid (∀ (b : Nat) (u : Bk), bl[b]? = some u → ∃ ob oo oc, Value.slice oa on ocp = .slice (some ⟨ob, oo, none⟩) on oc ∧ OutV wr bl ob oo) := fun b u hu => by
        have q := WaS.out (V := wr) (ov := .slice oa on ocp) (vs := vs) (X := X) (by rw [unhide hL]; exact hA3) hu
        rw [unhide hL] at q
        exact q
      clear hA hA3 hG
      obtain ⟨VO, hVO⟩ : ∃ z, Hid (wr = z) := ⟨_, hide rfl⟩
      go_wp2_with fail
      clear e0 e1 e2 e3
      rw [unhide hVO] at HP0 HTW HOU ⊢
      clear hVO
      go_loopg [8] on (fun gg t8 wr => ∃ b : Nat, Hid (b + gg = on) ∧ t8 = .int .i64 (b : Int) ∧ Hid (Below VO.heap.size VO wr))
      case atStart => exact ⟨0, by unfold Hid; omega, rfl, HP0⟩
      case round =>
        clear HP0
        obtain ⟨b, hb2, rfl, hP⟩ := hrel
        have hT := unhide HTW wr (unhide hP)
        obtain ⟨e0, e1, e2, e3⟩ := hT.c1
        by_cases hlt : b < on
        · have b0 : (0 : Int) ≤ (b : Int) := by omega
          have b1 : (b : Int) < (on : Int) := by omega
          obtain ⟨u, hu⟩ : ∃ u, bl[b]? = some u := ⟨_, List.getElem?_eq_getElem (by rw [unhide hL]; exact hlt)⟩
          have HU := hide hu
          obtain ⟨n, hnn⟩ : ∃ z, Hid (u.ins.length = z) := ⟨_, hide rfl⟩
          have hn8 : n ≤ 1048576 := by rw [← unhide hnn]; exact (unhide HO u (List.mem_of_getElem? hu)).1
          have HPW := hP
          clear hT hu
          obtain ⟨WO, hWO⟩ : ∃ z, z = wr := ⟨_, rfl⟩
          clear hWO
          go_wp2_with fail
          clear e0 e1 e2 e3
          go_loopg [9] n (fun gg t9 wr => ∃ i : Nat, Hid (i + gg = n) ∧ t9 = .int .i64 (i : Int) ∧ Hid (Below VO.heap.size VO wr))
          case atStart => exact ⟨0, by unfold Hid; omega, rfl, HPW⟩
          case round =>
            clear HPW hP
            obtain ⟨i, hi, rfl, hP⟩ := hrel
            by_cases hin : i < n
            · have i0 : (0 : Int) ≤ (i : Int) := by omega
              have i1 : (i : Int) < (n : Int) := by omega
              have hT := unhide HTW wr (unhide hP)
              obtain ⟨e0, e1, e2, e3⟩ := hT.c1
              obtain ⟨x, hx⟩ : ∃ x, u.ins[i]? = some x := ⟨_, List.getElem?_eq_getElem (by rw [unhide hnn]; exact hin)⟩
              obtain ⟨vb, vo, ia, ic, na, nc, ea, hvb, hIns, hNx, hic, hnc, hicl, hncl, hcc⟩ := hT.i.blk (unhide HU)
              cases ea
              obtain ⟨ob, oo, oc, eo, hout⟩ := unhide HOU b u (unhide HU)
              cases eo
              obtain ⟨ib, io, aa, ac, xa, xc, e4, hib, hP8, ha1x, ha2x, he1, he2, hcx⟩ := InsV.at8 hIns hx
              subst e4
              obtain ⟨AL, hAL⟩ : ∃ z, Hid (x.args.length = z) := ⟨_, hide rfl⟩
              obtain ⟨EL, hEL⟩ : ∃ z, Hid (x.ex.length = z) := ⟨_, hide rfl⟩
              rw [unhide hAL, unhide hEL] at hcx
              rw [unhide hnn] at hcc hicl
              obtain ⟨m0, m1, m2, m3⟩ := hcc wr (Below.refl _ _)
              obtain ⟨k0, k1, k2, k3, k4, k5, k6, k7, k8⟩ := hcx wr (Below.refl _ _)
              have HX := hide hx
              obtain ⟨g, hrow, hro⟩ := hout.2 b u (unhide HU)
              rw [unhide hnn] at hrow hro
              obtain ⟨gg, goff, gcap, eg, _, _, hgb, hgc⟩ := hro.full (by omega)
              cases eg
              have hrc := hgc i (by omega)
              have hrv : (flt enBo (rowG (wS bl b) u.ins 0))[i]? = some (.bool (gone (wS bl b) u.ins i)) := by
                have q := flt_at zBo (rowG_at (wS bl b) u.ins 0 (by rw [unhide hnn]; exact hin)) 0 (by omega)
                simpa [enBo] using q
              rw [hrv, Nat.zero_add] at hrc
              have HRC := hide hrc
              have HRW := hide hrow
              have HGB := hide hgb
              have HOB := hide hout
              clear hT hx hIns hNx hP8 hcc hcx hrow hro hgc hrv hrc hgb hout
              obtain ⟨xb, hxb⟩ : ∃ z, Hid (wr.heap.size = z) := ⟨_, hide rfl⟩
              go_wp2_with fail
              obtain ⟨Z, hZ⟩ : ∃ z, Hid (wr.alloc (.cells #[.int .i64 x.op, .int .i64 x.code, .int .i64 x.dst, .slice aa AL ac, .int .i64 x.n, .int .i64 x.pc, .int .i64 x.need, .slice xa EL xc] 51) = z) := ⟨_, hide rfl⟩
              have HZ : Hid (Below VO.heap.size VO Z) := by rw [← unhide hZ]; exact bl_past (unhide hP) (box1n wr _)
              have HZB : Hid (Z.heap[xb]? = some (.cells #[.int .i64 x.op, .int .i64 x.code, .int .i64 x.dst, .slice aa AL ac, .int .i64 x.n, .int .i64 x.pc, .int .i64 x.need, .slice xa EL xc] 51)) := by rw [← unhide hZ, ← unhide hxb]; exact heap_alloc_new wr _
              rw [unhide hZ, unhide hxb]
              clear hZ hxb hP e0 e1 e2 e3 m0 m1 m2 m3 k0 k1 k2 k3 k4 k5 k6 k7 k8
              have HQT := hide (quietL_any (w := Z) (x := x) (op := x.op) (code := x.code) (dst := x.dst) (n := x.n) (pc := x.pc) (need := x.need) (aa := aa) (ea := xa) (al := AL) (ac := ac) (el := EL) (ec := xc) rfl)
              cases hq : quiet x with
              | false =>
                rw [hq] at HQT
                refine (unhide HQT).mono ?_
                rintro e Z2 ⟨rfl, b3⟩
                have HZ2 := hide (bl_past (unhide HZ) b3)
                have hi2 : Hid (i + 1 + (gk - 1) = n) := by have := unhide hi; unfold Hid; omega
                clear b3 HQT HZ HZB hq HRC HRW HGB HOB
                go_wp2_with fail
                go_roundg (gk - 1)
                case measure => have := unhide hi; omega
                case rel => exact ⟨i + 1, hi2, by go_num, HZ2⟩
              | true =>
                rw [hq] at HQT
                refine (unhide HQT).mono ?_
                rintro e Z2 ⟨rfl, b3⟩
                have HZ2 := hide (bl_past (unhide HZ) b3)
                have HXC := hide (keepB b3 (unhide HZB))
                have hi2 : Hid (i + 1 + (gk - 1) = n) := by have := unhide hi; unfold Hid; omega
                have hgo := gone_in (bl := bl) (b := b) (unhide HX) hq
                clear b3 HQT HZ HZB hq
                by_cases hd : 0 ≤ x.dst ∧ x.dst < 512
                · obtain ⟨rr, hrr⟩ : ∃ rr : Nat, x.dst = (rr : Int) := ⟨x.dst.toNat, by omega⟩
                  have hr2 : rr < 512 := by omega
                  have r0 : (0 : Int) ≤ (rr : Int) := by omega
                  have r1 : (rr : Int) < 512 := by omega
                  have hin2 : inS (backL (wS bl b) (u.ins.drop (i + 1))) x.dst = backL (wS bl b) (u.ins.drop (i + 1)) rr := by rw [hrr]; unfold inS; simp
                  rw [hin2] at hgo
                  rw [hgo] at HRC
                  rw [hrr] at HXC
                  have HME := hide (fun V (hV : Below Z2.heap.size Z2 V) => met_any (w := V) (fn := fn) (regs := regs) (oc := ocp) (r := rr) (i := i + 1) (unhide HTW V (bl_past (unhide HZ2) hV)).i (unhide HO) (by rw [unhide hL]; exact hN) ((unhide HOB).on (bl_past (unhide HZ2) hV)) (unhide HU) (by rw [unhide hnn]; omega) hr2)
                  rw [unhide hL, show ((i + 1 : Nat) : Int) = (i : Int) + 1 by omega] at HME
                  clear hd hrr hin2 hgo
                  obtain ⟨mv, hmv⟩ : ∃ z, Hid (backL (wS bl b) (u.ins.drop (i + 1)) rr = z) := ⟨_, hide rfl⟩
                  rw [unhide hmv] at HME HRC
                  clear hmv
                  obtain ⟨nv, hnv⟩ : ∃ z, Hid ((!mv) = z) := ⟨_, hide rfl⟩
                  rw [unhide hnv] at HRC
                  have HC1 : Hid (∀ V, Below Z2.heap.size Z2 V → w.heap.size < V.heap.size ∧ V.cell? ⟨w.heap.size, 0, none⟩ = some (.int .i64 fn) ∧ V.cell? ⟨w.heap.size, 1, none⟩ = some (.int .i64 regs) ∧ V.cell? ⟨w.heap.size, 2, none⟩ = some (.slice (some ⟨vb, vo, none⟩) on c) ∧ ob < V.heap.size ∧ V.cell? ⟨ob, oo + b, none⟩ = some (.slice (some ⟨g, 0, none⟩) n n) ∧ g < V.heap.size ∧ V.cell? ⟨g, i, none⟩ = some (.bool nv) ∧ xb < V.heap.size ∧ V.cell? ⟨xb, 2, none⟩ = some (.int .i64 (rr : Int))) := fun V hV => by
                    have hO := bl_past (unhide HZ2) hV
                    obtain ⟨f0, f1, f2, f3⟩ := (unhide HTW V hO).c1
                    obtain ⟨z1, _, z3⟩ := blk_cells (keepB hV (unhide HXC))
                    exact ⟨f0, f1, f2, f3, Nat.lt_of_lt_of_le (unhide HOB).1 hO.size, (hO.cell (p := ⟨ob, oo + b, none⟩) (unhide HOB).1).trans (unhide HRW), Nat.lt_of_lt_of_le (unhide HGB) hO.size, (hO.cell (p := ⟨g, i, none⟩) (unhide HGB)).trans (unhide HRC), z3, z1 2⟩
                  obtain ⟨y0, y1, y2, y3, y4, y5, y6, y7, y8, y9⟩ := unhide HC1 Z2 (Below.refl _ _)
                  go_wp2_with fail
                  obtain ⟨Y2, hY2⟩ : ∃ z, Hid (Z2.drew = z) := ⟨_, hide rfl⟩
                  have HS0 : Hid (Below Z2.heap.size Z2 Y2) := by rw [← unhide hY2]; exact bl_drew Z2
                  have hsz0 := (unhide HS0).size
                  clear y0 y1 y2 y3 y4 y5 y6 y7 y8 y9
                  have HME2 := hide (unhide HME Y2 (unhide HS0))
                  clear HME
                  have HME := HME2
                  clear HME2
                  refine wp_region_held_drew (S := fun V => Below Z2.heap.size Z2 V) (by kernel_rfl) (by rw [unhide hY2]; exact unhide HS0) (fun hHeld => ?_)
                  clear hHeld
                  rw [unhide hY2]
                  clear hY2
                  refine wpAnyH_take (i := 0) (oi := _) (v := .slice (some ⟨ob, oo, none⟩) on ocp) rfl (by kernel_rfl) (by kernel_rfl) (by kernel_rfl) (fun _ _ _ h => h) (Or.inl ⟨by rfl, (by intro w' hSw; go_simp; first | done | rfl)⟩) (unhide HS0) ?_
                  go_simp
                  refine wpAnyH_take (i := 1) (oi := _) (v := .int .i64 (b : Int)) rfl (by kernel_rfl) (by kernel_rfl) (by kernel_rfl) (fun _ _ _ h => h) (Or.inl ⟨by rfl, (by intro w' hSw; go_simp; first | done | rfl)⟩) (unhide HS0) ?_
                  go_simp
                  refine wpAnyH_take (i := 2) (oi := _) (v := .pointer (some ⟨ob, oo + b, none⟩)) rfl (by kernel_rfl) (by kernel_rfl) (by kernel_rfl) (fun _ _ _ h => h) (Or.inl ⟨by rfl, (by intro w' hSw; go_simp; first | done | rfl)⟩) (unhide HS0) ?_
                  go_simp
                  refine wpAnyH_take (i := 3) (oi := _) (v := .slice (some ⟨g, 0, none⟩) n n) rfl (by kernel_rfl) (by kernel_rfl) (by kernel_rfl) (fun _ _ _ h => h) (Or.inl ⟨by rfl, (by intro w' hSw; obtain ⟨q0, q1, q2, q3, q4, q5, q6, q7, q8, q9⟩ := unhide HC1 w' hSw; go_simp; first | done | rfl)⟩) (unhide HS0) ?_
                  go_simp
                  refine wpAnyH_take (i := 4) (oi := _) (v := .int .i64 (i : Int)) rfl (by kernel_rfl) (by kernel_rfl) (by kernel_rfl) (fun _ _ _ h => h) (Or.inl ⟨by rfl, (by intro w' hSw; go_simp; first | done | rfl)⟩) (unhide HS0) ?_
                  go_simp
                  refine wpAnyH_take (i := 5) (oi := _) (v := .pointer (some ⟨g, i, none⟩)) rfl (by kernel_rfl) (by kernel_rfl) (by kernel_rfl) (fun _ _ _ h => h) (Or.inl ⟨by rfl, (by intro w' hSw; go_simp; first | done | rfl)⟩) (unhide HS0) ?_
                  go_simp
                  refine wpAnyH_take (i := 6) (oi := _) (v := .bool nv) rfl (by kernel_rfl) (by kernel_rfl) (by kernel_rfl) (fun _ _ _ h => h) (Or.inl ⟨by rfl, (by intro w' hSw; obtain ⟨q0, q1, q2, q3, q4, q5, q6, q7, q8, q9⟩ := unhide HC1 w' hSw; go_simp; first | done | rfl)⟩) (unhide HS0) ?_
                  go_simp
                  refine wpAnyH_take (i := 7) (oi := _) (v := .bool true) rfl (by kernel_rfl) (by kernel_rfl) (by kernel_rfl) (fun _ _ _ h => h) (Or.inl ⟨by rfl, (by intro w' hSw; go_simp; first | done | rfl)⟩) (unhide HS0) ?_
                  go_simp
                  refine wpAnyH_take (i := 8) (oi := _) (v := .bool true) rfl (by kernel_rfl) (by kernel_rfl) (by kernel_rfl) (fun _ _ _ h => h) (Or.inl ⟨by rfl, (by intro w' hSw; go_simp; first | done | rfl)⟩) (unhide HS0) ?_
                  go_simp
                  refine wpAnyH_take (i := 9) (oi := _) (v := .agg #[.int .i64 fn, .int .i64 regs, .slice (some ⟨vb, vo, none⟩) on c]) rfl (by kernel_rfl) (by kernel_rfl) (by kernel_rfl) (fun _ _ _ h => h) (Or.inl ⟨by rfl, (by intro w' hSw; obtain ⟨q0, q1, q2, q3, q4, q5, q6, q7, q8, q9⟩ := unhide HC1 w' hSw; go_simp; first | done | rfl)⟩) (unhide HS0) ?_
                  go_simp
                  refine wpAnyH_take (i := 10) (oi := _) (v := .slice (some ⟨ob, oo, none⟩) on ocp) rfl (by kernel_rfl) (by kernel_rfl) (by kernel_rfl) (fun _ _ _ h => h) (Or.inl ⟨by rfl, (by intro w' hSw; go_simp; first | done | rfl)⟩) (unhide HS0) ?_
                  go_simp
                  refine wpAnyH_take (i := 11) (oi := _) (v := .int .i64 (b : Int)) rfl (by kernel_rfl) (by kernel_rfl) (by kernel_rfl) (fun _ _ _ h => h) (Or.inl ⟨by rfl, (by intro w' hSw; go_simp; first | done | rfl)⟩) (unhide HS0) ?_
                  go_simp
                  refine wpAnyH_take (i := 12) (oi := _) (v := .int .i64 (i : Int)) rfl (by kernel_rfl) (by kernel_rfl) (by kernel_rfl) (fun _ _ _ h => h) (Or.inl ⟨by rfl, (by intro w' hSw; go_simp; first | done | rfl)⟩) (unhide HS0) ?_
                  go_simp
                  refine wpAnyH_take (i := 13) (oi := _) (v := .int .i64 ((i : Int) + 1)) rfl (by kernel_rfl) (by kernel_rfl) (by kernel_rfl) (fun _ _ _ h => h) (Or.inl ⟨by rfl, (by intro w' hSw; have qw : IntKind.i64.wrap ((i : Int) + 1) = (i : Int) + 1 := (by rw [IntKind.wrap_i64]; omega); go_simp; first | done | rfl)⟩) (unhide HS0) ?_
                  go_simp
                  refine wpAnyH_take (i := 14) (oi := _) (v := .pointer (some ⟨xb, 2, none⟩)) rfl (by kernel_rfl) (by kernel_rfl) (by kernel_rfl) (fun _ _ _ h => h) (Or.inl ⟨by rfl, (by intro w' hSw; go_simp; first | done | rfl)⟩) (unhide HS0) ?_
                  go_simp
                  refine wpAnyH_take (i := 15) (oi := _) (v := .int .i64 (rr : Int)) rfl (by kernel_rfl) (by kernel_rfl) (by kernel_rfl) (fun _ _ _ h => h) (Or.inl ⟨by rfl, (by intro w' hSw; obtain ⟨q0, q1, q2, q3, q4, q5, q6, q7, q8, q9⟩ := unhide HC1 w' hSw; go_simp; first | done | rfl)⟩) (unhide HS0) ?_
                  go_simp
                  refine wpAnyH_ready (rs := [16]) (by kernel_rfl) (by simp) ?_
                  refine AllReadyH.cons (o := _) rfl (fun K hK => ?_) AllReadyH.nil
                  go_simp
                  refine (unhide HME).mono ?_
                  rintro e Y3 ⟨rfl, b3⟩
                  have HS3 : Hid (Below Z2.heap.size Z2 Y3) := (unhide HS0).trans (b3.mono (unhide HS0).size)
                  clear b3 HME HS0
                  refine hK.out _ _ (unhide HS3) (fun _ => ?_)
                  clear hK K
                  go_simp
                  refine wpAnyH_take (i := 17) (oi := _) (v := .bool mv) rfl (by kernel_rfl) (by kernel_rfl) (by kernel_rfl) (fun _ _ _ h => h) (Or.inl ⟨by rfl, (by intro w' hSw; go_simp; first | done | rfl)⟩) (unhide HS3) ?_
                  go_simp
                  refine wpAnyH_take (i := 18) (oi := _) (v := .bool false) rfl (by kernel_rfl) (by kernel_rfl) (by kernel_rfl) (fun _ _ _ h => h) (Or.inl ⟨by rfl, (by intro w' hSw; have qe := eqB_nv (unhide hnv) w'; go_simp; first | done | rfl)⟩) (unhide HS3) ?_
                  go_simp
                  refine wpAnyH_done (by kernel_rfl) ?_ _
                  have HP3 := hide (bl_past (unhide HZ2) (unhide HS3))
                  clear HC1 HS3
                  go_wp2_with fail
                  go_roundg (gk - 1)
                  case measure => have := unhide hi; omega
                  case rel => exact ⟨i + 1, hi2, by go_num, HP3⟩
                · rw [hgo, inS_no (backL_sup (wS_sup bl b) _) hd] at HRC
                  have HRC1 := HRC
                  clear HRC
                  have HRC : Hid (VO.cell? ⟨g, i, none⟩ = some (.bool true)) := hide (unhide HRC1)
                  clear HRC1 hgo
                  have HC1 : Hid (∀ V, Below Z2.heap.size Z2 V → w.heap.size < V.heap.size ∧ V.cell? ⟨w.heap.size, 0, none⟩ = some (.int .i64 fn) ∧ V.cell? ⟨w.heap.size, 1, none⟩ = some (.int .i64 regs) ∧ V.cell? ⟨w.heap.size, 2, none⟩ = some (.slice (some ⟨vb, vo, none⟩) on c) ∧ ob < V.heap.size ∧ V.cell? ⟨ob, oo + b, none⟩ = some (.slice (some ⟨g, 0, none⟩) n n) ∧ g < V.heap.size ∧ V.cell? ⟨g, i, none⟩ = some (.bool true) ∧ xb < V.heap.size ∧ V.cell? ⟨xb, 2, none⟩ = some (.int .i64 x.dst)) := fun V hV => by
                    have hO := bl_past (unhide HZ2) hV
                    obtain ⟨f0, f1, f2, f3⟩ := (unhide HTW V hO).c1
                    obtain ⟨z1, _, z3⟩ := blk_cells (keepB hV (unhide HXC))
                    exact ⟨f0, f1, f2, f3, Nat.lt_of_lt_of_le (unhide HOB).1 hO.size, (hO.cell (p := ⟨ob, oo + b, none⟩) (unhide HOB).1).trans (unhide HRW), Nat.lt_of_lt_of_le (unhide HGB) hO.size, (hO.cell (p := ⟨g, i, none⟩) (unhide HGB)).trans (unhide HRC), z3, z1 2⟩
                  obtain ⟨y0, y1, y2, y3, y4, y5, y6, y7, y8, y9⟩ := unhide HC1 Z2 (Below.refl _ _)
                  by_cases h0 : 0 ≤ x.dst
                  · have h1 : ¬ x.dst < 512 := by omega
                    clear hd
                    go_wp2_with fail
                    obtain ⟨Y2, hY2⟩ : ∃ z, Hid (Z2.drew = z) := ⟨_, hide rfl⟩
                    have HS0 : Hid (Below Z2.heap.size Z2 Y2) := by rw [← unhide hY2]; exact bl_drew Z2
                    have hsz0 := (unhide HS0).size
                    clear y0 y1 y2 y3 y4 y5 y6 y7 y8 y9
                    refine wp_region_held_drew (S := fun V => Below Z2.heap.size Z2 V) (by kernel_rfl) (by rw [unhide hY2]; exact unhide HS0) (fun hHeld => ?_)
                    clear hHeld
                    rw [unhide hY2]
                    clear hY2
                    refine wpAnyH_take (i := 0) (oi := _) (v := .slice (some ⟨ob, oo, none⟩) on ocp) rfl (by kernel_rfl) (by kernel_rfl) (by kernel_rfl) (fun _ _ _ h => h) (Or.inl ⟨by rfl, (by intro w' hSw; go_simp; first | done | rfl)⟩) (unhide HS0) ?_
                    go_simp
                    refine wpAnyH_take (i := 1) (oi := _) (v := .int .i64 (b : Int)) rfl (by kernel_rfl) (by kernel_rfl) (by kernel_rfl) (fun _ _ _ h => h) (Or.inl ⟨by rfl, (by intro w' hSw; go_simp; first | done | rfl)⟩) (unhide HS0) ?_
                    go_simp
                    refine wpAnyH_take (i := 2) (oi := _) (v := .pointer (some ⟨ob, oo + b, none⟩)) rfl (by kernel_rfl) (by kernel_rfl) (by kernel_rfl) (fun _ _ _ h => h) (Or.inl ⟨by rfl, (by intro w' hSw; go_simp; first | done | rfl)⟩) (unhide HS0) ?_
                    go_simp
                    refine wpAnyH_take (i := 3) (oi := _) (v := .slice (some ⟨g, 0, none⟩) n n) rfl (by kernel_rfl) (by kernel_rfl) (by kernel_rfl) (fun _ _ _ h => h) (Or.inl ⟨by rfl, (by intro w' hSw; obtain ⟨q0, q1, q2, q3, q4, q5, q6, q7, q8, q9⟩ := unhide HC1 w' hSw; go_simp; first | done | rfl)⟩) (unhide HS0) ?_
                    go_simp
                    refine wpAnyH_take (i := 4) (oi := _) (v := .int .i64 (i : Int)) rfl (by kernel_rfl) (by kernel_rfl) (by kernel_rfl) (fun _ _ _ h => h) (Or.inl ⟨by rfl, (by intro w' hSw; go_simp; first | done | rfl)⟩) (unhide HS0) ?_
                    go_simp
                    refine wpAnyH_take (i := 5) (oi := _) (v := .pointer (some ⟨g, i, none⟩)) rfl (by kernel_rfl) (by kernel_rfl) (by kernel_rfl) (fun _ _ _ h => h) (Or.inl ⟨by rfl, (by intro w' hSw; go_simp; first | done | rfl)⟩) (unhide HS0) ?_
                    go_simp
                    refine wpAnyH_take (i := 6) (oi := _) (v := .bool true) rfl (by kernel_rfl) (by kernel_rfl) (by kernel_rfl) (fun _ _ _ h => h) (Or.inl ⟨by rfl, (by intro w' hSw; obtain ⟨q0, q1, q2, q3, q4, q5, q6, q7, q8, q9⟩ := unhide HC1 w' hSw; go_simp; first | done | rfl)⟩) (unhide HS0) ?_
                    go_simp
                    refine wpAnyH_take (i := 7) (oi := _) (v := .bool false) rfl (by kernel_rfl) (by kernel_rfl) (by kernel_rfl) (fun _ _ _ h => h) (Or.inl ⟨by rfl, (by intro w' hSw; go_simp; first | done | rfl)⟩) (unhide HS0) ?_
                    go_simp
                    refine wpAnyH_take (i := 8) (oi := _) (v := .bool false) rfl (by kernel_rfl) (by kernel_rfl) (by kernel_rfl) (fun _ _ _ h => h) (Or.inl ⟨by rfl, (by intro w' hSw; go_simp; first | done | rfl)⟩) (unhide HS0) ?_
                    go_simp
                    refine wpAnyH_take (i := 9) (oi := _) (v := undef) rfl (by kernel_rfl) (by kernel_rfl) (by kernel_rfl) (fun _ _ _ h => h) (Or.inr ⟨by rfl, rfl⟩) (unhide HS0) ?_
                    go_simp
                    refine wpAnyH_take (i := 10) (oi := _) (v := undef) rfl (by kernel_rfl) (by kernel_rfl) (by kernel_rfl) (fun _ _ _ h => h) (Or.inr ⟨by rfl, rfl⟩) (unhide HS0) ?_
                    go_simp
                    refine wpAnyH_take (i := 11) (oi := _) (v := undef) rfl (by kernel_rfl) (by kernel_rfl) (by kernel_rfl) (fun _ _ _ h => h) (Or.inr ⟨by rfl, rfl⟩) (unhide HS0) ?_
                    go_simp
                    refine wpAnyH_take (i := 12) (oi := _) (v := undef) rfl (by kernel_rfl) (by kernel_rfl) (by kernel_rfl) (fun _ _ _ h => h) (Or.inr ⟨by rfl, rfl⟩) (unhide HS0) ?_
                    go_simp
                    refine wpAnyH_take (i := 13) (oi := _) (v := undef) rfl (by kernel_rfl) (by kernel_rfl) (by kernel_rfl) (fun _ _ _ h => h) (Or.inr ⟨by rfl, rfl⟩) (unhide HS0) ?_
                    go_simp
                    refine wpAnyH_take (i := 14) (oi := _) (v := undef) rfl (by kernel_rfl) (by kernel_rfl) (by kernel_rfl) (fun _ _ _ h => h) (Or.inr ⟨by rfl, rfl⟩) (unhide HS0) ?_
                    go_simp
                    refine wpAnyH_take (i := 15) (oi := _) (v := undef) rfl (by kernel_rfl) (by kernel_rfl) (by kernel_rfl) (fun _ _ _ h => h) (Or.inr ⟨by rfl, rfl⟩) (unhide HS0) ?_
                    go_simp
                    refine wpAnyH_ready (rs := [16]) (by kernel_rfl) (by simp) ?_
                    refine AllReadyH.cons (o := _) rfl (fun K hK => ?_) AllReadyH.nil
                    go_simp
                    refine hK.out _ _ (unhide HS0) (fun _ => ?_)
                    clear hK K
                    go_simp
                    refine wpAnyH_take (i := 17) (oi := _) (v := .bool false) rfl (by kernel_rfl) (by kernel_rfl) (by kernel_rfl) (fun _ _ _ h => h) (Or.inl ⟨by rfl, (by intro w' hSw; go_simp; first | done | rfl)⟩) (unhide HS0) ?_
                    go_simp
                    refine wpAnyH_take (i := 18) (oi := _) (v := .bool false) rfl (by kernel_rfl) (by kernel_rfl) (by kernel_rfl) (fun _ _ _ h => h) (Or.inl ⟨by rfl, (by intro w' hSw; have qe := eqB_tf w'; go_simp; first | done | rfl)⟩) (unhide HS0) ?_
                    go_simp
                    refine wpAnyH_done (by kernel_rfl) ?_ _
                    have HP3 := hide (bl_past (unhide HZ2) (unhide HS0))
                    clear HC1 HS0
                    go_wp2_with fail
                    go_roundg (gk - 1)
                    case measure => have := unhide hi; omega
                    case rel => exact ⟨i + 1, hi2, by go_num, HP3⟩

                  · have h1 : ¬ 0 ≤ x.dst := h0
                    clear hd h0
                    go_wp2_with fail
                    obtain ⟨Y2, hY2⟩ : ∃ z, Hid (Z2.drew = z) := ⟨_, hide rfl⟩
                    have HS0 : Hid (Below Z2.heap.size Z2 Y2) := by rw [← unhide hY2]; exact bl_drew Z2
                    have hsz0 := (unhide HS0).size
                    clear y0 y1 y2 y3 y4 y5 y6 y7 y8 y9
                    refine wp_region_held_drew (S := fun V => Below Z2.heap.size Z2 V) (by kernel_rfl) (by rw [unhide hY2]; exact unhide HS0) (fun hHeld => ?_)
                    clear hHeld
                    rw [unhide hY2]
                    clear hY2
                    refine wpAnyH_take (i := 0) (oi := _) (v := .slice (some ⟨ob, oo, none⟩) on ocp) rfl (by kernel_rfl) (by kernel_rfl) (by kernel_rfl) (fun _ _ _ h => h) (Or.inl ⟨by rfl, (by intro w' hSw; go_simp; first | done | rfl)⟩) (unhide HS0) ?_
                    go_simp
                    refine wpAnyH_take (i := 1) (oi := _) (v := .int .i64 (b : Int)) rfl (by kernel_rfl) (by kernel_rfl) (by kernel_rfl) (fun _ _ _ h => h) (Or.inl ⟨by rfl, (by intro w' hSw; go_simp; first | done | rfl)⟩) (unhide HS0) ?_
                    go_simp
                    refine wpAnyH_take (i := 2) (oi := _) (v := .pointer (some ⟨ob, oo + b, none⟩)) rfl (by kernel_rfl) (by kernel_rfl) (by kernel_rfl) (fun _ _ _ h => h) (Or.inl ⟨by rfl, (by intro w' hSw; go_simp; first | done | rfl)⟩) (unhide HS0) ?_
                    go_simp
                    refine wpAnyH_take (i := 3) (oi := _) (v := .slice (some ⟨g, 0, none⟩) n n) rfl (by kernel_rfl) (by kernel_rfl) (by kernel_rfl) (fun _ _ _ h => h) (Or.inl ⟨by rfl, (by intro w' hSw; obtain ⟨q0, q1, q2, q3, q4, q5, q6, q7, q8, q9⟩ := unhide HC1 w' hSw; go_simp; first | done | rfl)⟩) (unhide HS0) ?_
                    go_simp
                    refine wpAnyH_take (i := 4) (oi := _) (v := .int .i64 (i : Int)) rfl (by kernel_rfl) (by kernel_rfl) (by kernel_rfl) (fun _ _ _ h => h) (Or.inl ⟨by rfl, (by intro w' hSw; go_simp; first | done | rfl)⟩) (unhide HS0) ?_
                    go_simp
                    refine wpAnyH_take (i := 5) (oi := _) (v := .pointer (some ⟨g, i, none⟩)) rfl (by kernel_rfl) (by kernel_rfl) (by kernel_rfl) (fun _ _ _ h => h) (Or.inl ⟨by rfl, (by intro w' hSw; go_simp; first | done | rfl)⟩) (unhide HS0) ?_
                    go_simp
                    refine wpAnyH_take (i := 6) (oi := _) (v := .bool true) rfl (by kernel_rfl) (by kernel_rfl) (by kernel_rfl) (fun _ _ _ h => h) (Or.inl ⟨by rfl, (by intro w' hSw; obtain ⟨q0, q1, q2, q3, q4, q5, q6, q7, q8, q9⟩ := unhide HC1 w' hSw; go_simp; first | done | rfl)⟩) (unhide HS0) ?_
                    go_simp
                    refine wpAnyH_take (i := 7) (oi := _) (v := .bool false) rfl (by kernel_rfl) (by kernel_rfl) (by kernel_rfl) (fun _ _ _ h => h) (Or.inl ⟨by rfl, (by intro w' hSw; go_simp; first | done | rfl)⟩) (unhide HS0) ?_
                    go_simp
                    refine wpAnyH_take (i := 8) (oi := _) (v := .bool false) rfl (by kernel_rfl) (by kernel_rfl) (by kernel_rfl) (fun _ _ _ h => h) (Or.inl ⟨by rfl, (by intro w' hSw; go_simp; first | done | rfl)⟩) (unhide HS0) ?_
                    go_simp
                    refine wpAnyH_take (i := 9) (oi := _) (v := undef) rfl (by kernel_rfl) (by kernel_rfl) (by kernel_rfl) (fun _ _ _ h => h) (Or.inr ⟨by rfl, rfl⟩) (unhide HS0) ?_
                    go_simp
                    refine wpAnyH_take (i := 10) (oi := _) (v := undef) rfl (by kernel_rfl) (by kernel_rfl) (by kernel_rfl) (fun _ _ _ h => h) (Or.inr ⟨by rfl, rfl⟩) (unhide HS0) ?_
                    go_simp
                    refine wpAnyH_take (i := 11) (oi := _) (v := undef) rfl (by kernel_rfl) (by kernel_rfl) (by kernel_rfl) (fun _ _ _ h => h) (Or.inr ⟨by rfl, rfl⟩) (unhide HS0) ?_
                    go_simp
                    refine wpAnyH_take (i := 12) (oi := _) (v := undef) rfl (by kernel_rfl) (by kernel_rfl) (by kernel_rfl) (fun _ _ _ h => h) (Or.inr ⟨by rfl, rfl⟩) (unhide HS0) ?_
                    go_simp
                    refine wpAnyH_take (i := 13) (oi := _) (v := undef) rfl (by kernel_rfl) (by kernel_rfl) (by kernel_rfl) (fun _ _ _ h => h) (Or.inr ⟨by rfl, rfl⟩) (unhide HS0) ?_
                    go_simp
                    refine wpAnyH_take (i := 14) (oi := _) (v := undef) rfl (by kernel_rfl) (by kernel_rfl) (by kernel_rfl) (fun _ _ _ h => h) (Or.inr ⟨by rfl, rfl⟩) (unhide HS0) ?_
                    go_simp
                    refine wpAnyH_take (i := 15) (oi := _) (v := undef) rfl (by kernel_rfl) (by kernel_rfl) (by kernel_rfl) (fun _ _ _ h => h) (Or.inr ⟨by rfl, rfl⟩) (unhide HS0) ?_
                    go_simp
                    refine wpAnyH_ready (rs := [16]) (by kernel_rfl) (by simp) ?_
                    refine AllReadyH.cons (o := _) rfl (fun K hK => ?_) AllReadyH.nil
                    go_simp
                    refine hK.out _ _ (unhide HS0) (fun _ => ?_)
                    clear hK K
                    go_simp
                    refine wpAnyH_take (i := 17) (oi := _) (v := .bool false) rfl (by kernel_rfl) (by kernel_rfl) (by kernel_rfl) (fun _ _ _ h => h) (Or.inl ⟨by rfl, (by intro w' hSw; go_simp; first | done | rfl)⟩) (unhide HS0) ?_
                    go_simp
                    refine wpAnyH_take (i := 18) (oi := _) (v := .bool false) rfl (by kernel_rfl) (by kernel_rfl) (by kernel_rfl) (fun _ _ _ h => h) (Or.inl ⟨by rfl, (by intro w' hSw; have qe := eqB_tf w'; go_simp; first | done | rfl)⟩) (unhide HS0) ?_
                    go_simp
                    refine wpAnyH_done (by kernel_rfl) ?_ _
                    have HP3 := hide (bl_past (unhide HZ2) (unhide HS0))
                    clear HC1 HS0
                    go_wp2_with fail
                    go_roundg (gk - 1)
                    case measure => have := unhide hi; omega
                    case rel => exact ⟨i + 1, hi2, by go_num, HP3⟩

            · have i1 : ¬ (i : Int) < (n : Int) := by omega
              have hT := unhide HTW wr (unhide hP)
              obtain ⟨e0, e1, e2, e3⟩ := hT.c1
              obtain ⟨vb, vo, ia, ic, na, nc, ea, hvb, hIns, hNx, hic, hnc, hicl, hncl, hcc⟩ := hT.i.blk (unhide HU)
              cases ea
              rw [unhide hnn] at hcc hicl
              obtain ⟨m0, m1, m2, m3⟩ := hcc wr (Below.refl _ _)
              clear hT hIns hNx hcc
              go_wp2_with fail
              go_roundg (on - (b + 1))
              case measure => have := unhide hb2; omega
              case rel => exact ⟨b + 1, by have := unhide hb2; unfold Hid; omega, by go_num, hP⟩
        · have hbL : b = on := by have := unhide hb2; omega
          have b1 : ¬ (b : Int) < (on : Int) := by omega
          have HSH := hide (shown_any hT.tt)
          have HBW := hide hT.bw
          clear hbL hT
          go_wp2_with fail
          refine (unhide HSH).mono ?_
          rintro e Z ⟨rfl, bz⟩
          have HZ := hide (bl_past (unhide HBW) bz)
          clear bz
          go_wp2_with fail
          go_ret
          exact ⟨rfl, unhide HZ⟩
end Go.Proofs.YtpbdmbmafjkinaaDoor
