/-
  live.Run.
-/
import Derived.Test.YtpbdmbmafjkinaaDoorKp
import Derived.Test.YtpbdmbmafjkinaaDoorWn
namespace Go.Proofs.YtpbdmbmafjkinaaDoor
open Go.RowKit
set_option linter.unusedVariables false
set_option linter.unusedSimpArgs false
def OkL (b : Bk) : Prop := b.ins.length ≤ 1048576 ∧ b.nx.length ≤ 1048576 ∧ ∀ x ∈ b.ins, x.args.length ≤ 1048576 ∧ x.ex.length ≤ 1048576 ∧ ∀ s ∈ x.ex, s.sl.length ≤ 1048576
structure RL (w : World) (b : Nat) (fn regs : Int) (N : Nat) (ul : List Bk) (rs0 : List BkR) (v : Value) (As : List Wd) (k : Nat) (X0 : List TB) (wr : World) : Prop where
  bw : Below w.heap.size w wr
  lt : w.heap.size + 1 < b
  box : wr.heap[w.heap.size]? = some (.cells #[.int .i64 fn, .int .i64 regs, v] 24)
  res : wr.heap[w.heap.size + 1]? = some (.cells #[.int .i64 0, .int .i64 0, .slice none 0 0] 24)
  ri : RI enTB 3 (PB b) blB (b + 1) ul X0 k wr v
  old : ∀ j, k ≤ j → (X0[j]?).map Prod.fst = rs0[j]?
  bh : Ro wr 8 (.slice (some ⟨b, 0, none⟩) N N) N (flt enW As)
section
variable {w wr w1 : World} {b k N : Nat} {fn regs : Int} {ul : List Bk} {rs0 : List BkR} {v : Value} {As : List Wd} {X0 : List TB}
theorem RL.on (h : RL w b fn regs N ul rs0 v As k X0 wr) (hb : Below wr.heap.size wr w1) : RL w b fn regs N ul rs0 v As k X0 w1 := by
  have hs := h.bw.size
  have f := Fr.of_below (S := fun _ => False) hb
  exact ⟨h.bw.trans (hb.mono hs), h.lt, (f.block _ (Array.getElem?_eq_some_iff.1 h.box).1 (fun e => e)).trans h.box, (f.block _ (Array.getElem?_eq_some_iff.1 h.res).1 (fun e => e)).trans h.res, h.ri.below (stayB b) hb, h.old, h.bh.fr f (fun _ _ e => e)⟩
/-- One block more. -/
theorem RL.step {wc w2 : World} (h : RL w b fn regs N ul rs0 v As k X0 wc) {u : Bk} (hu : ul[k]? = some u) {r : BkR} (hr : rs0[k]? = some r) (hpc : r.pc = u.pc) {lv nv : Value} {ts : List TI} (hb1 : Below wc.heap.size wc w1) (how1 : OW enT 8 InT blT (fun q => wc.heap.size ≤ q) w1 lv u.ins ts) (hn : Gx w1 1 enI u.nx nv w2)
    {g off cap : Nat} (e : v = .slice (some ⟨g, off, none⟩) ul.length cap) :
    ∃ X1, RL w b fn regs N ul rs0 v As (k + 1) X1 ((w2.setCell ⟨g, off + k * 3 + 1, none⟩ lv).setCell ⟨g, off + k * 3 + 2, none⟩ nv) := by
  have hl := h.lt
  have hsw := h.bw.size
  have s1 := hb1.size
  have s2 := hn.2.1.size
  have hbc : b < wc.heap.size := h.bh.lt b rfl
  have h2 := (h.on hb1).on hn.2.1
  have hkl := (List.getElem?_eq_some_iff.1 hu).1
  obtain ⟨x, hx⟩ : ∃ x, X0[k]? = some x := ⟨_, List.getElem?_eq_getElem (by rw [h.ri.len]; exact hkl)⟩
  have hxr : x.1 = r := by
    have := h.old k (Nat.le_refl _)
    rw [hx, hr] at this
    simpa using this
  obtain ⟨⟨xpc, xiv, xnv⟩, xt⟩ := x
  simp only at hxr
  subst hxr
  simp only at hpc
  subst hpc
  obtain ⟨r1, t1⟩ := h2.ri.put (stayB b) zTB e (c := 1) (x' := (⟨u.pc, lv, xnv⟩, ts)) (y := lv) hx (by omega) rfl
  have hk1 : (X0.set k (⟨u.pc, lv, xnv⟩, ts))[k]? = some (⟨u.pc, lv, xnv⟩, ts) := List.getElem?_set_self (List.getElem?_eq_some_iff.1 hx).1
  obtain ⟨r2, t2⟩ := r1.put (stayB b) zTB e (c := 2) (x' := (⟨u.pc, lv, nv⟩, ts)) (y := nv) hk1 (by omega) rfl
  have hk2 : ((X0.set k (⟨u.pc, lv, xnv⟩, ts)).set k (⟨u.pc, lv, nv⟩, ts))[k]? = some (⟨u.pc, lv, nv⟩, ts) := List.getElem?_set_self (by rw [List.length_set]; exact (List.getElem?_eq_some_iff.1 hx).1)
  have hg : b + 1 ≤ g := h.ri.rb g (by rw [e]; rfl)
  have hgc : g < wc.heap.size := h.ri.row.lt g (by rw [e]; rfl)
  have T : Fr (fun q => q = g) w2 ((w2.setCell ⟨g, off + k * 3 + 1, none⟩ lv).setCell ⟨g, off + k * 3 + 2, none⟩ nv) := t1.trans t2
  have ow2 := how1.below stayT hn.2.1
  have how : ∀ q, (lv.ownBlock = some q ∨ ∃ y ∈ ts, blT y q) → wc.heap.size ≤ q ∧ q < w1.heap.size := fun q hq => how1.in hq
  have hnw : ∀ q, nv.ownBlock = some q → w1.heap.size ≤ q ∧ q < w2.heap.size := fun q hq => ⟨hn.2.2 q hq, hn.1.lt q hq⟩
  have hp : PB b ((w2.setCell ⟨g, off + k * 3 + 1, none⟩ lv).setCell ⟨g, off + k * 3 + 2, none⟩ nv) u (⟨u.pc, lv, nv⟩, ts) := by
    refine ⟨rfl, ?_, ?_, fun q hq => ⟨by have := (hnw q hq).1; omega, fun e2 => ?_, fun y hy e2 => ?_⟩⟩
    · exact (ow2.fr stayT T (fun q hq hi e2 => by have := (how q hi).1; omega)).mono (fun q hq hz => by have hz' : wc.heap.size ≤ q := hz; show b < q; omega)
    · exact hn.1.fr T (fun q hq e2 => by have := (hnw q hq).1; omega)
    · have := (how q (.inl e2)).2; have := (hnw q hq).1; omega
    · have := (how q (.inr ⟨y, hy, e2⟩)).2; have := (hnw q hq).1; omega
  have hsz2 := T.size
  refine ⟨(X0.set k (⟨u.pc, lv, xnv⟩, ts)).set k (⟨u.pc, lv, nv⟩, ts), h2.bw.trans (T.below h2.bw.size (fun q hq e2 => by omega)), hl, (T.block _ (Array.getElem?_eq_some_iff.1 h2.box).1 (by omega)).trans h2.box, (T.block _ (Array.getElem?_eq_some_iff.1 h2.res).1 (by omega)).trans h2.res, ?_, fun j hj => ?_, h2.bh.fr T (fun q hq e2 => by have := own_eq hq; omega)⟩
  · refine r2.done (Q := wc.heap.size) (u := u) hu hk2 hp (fun q hq => ?_) (by omega) (fun q hq => h.ri.row.lt q hq) (fun j y q hj hy hq => ?_)
    · rcases hq with q1 | ⟨y, hy, q1⟩ | q1
      · have := how q (.inl q1); omega
      · have := how q (.inr ⟨y, hy, q1⟩); omega
      · have := hnw q q1; omega
    · rw [List.getElem?_set_ne (by omega), List.getElem?_set_ne (by omega)] at hy
      exact (h.ri.eb j y q hj hy hq).2.1
  · rw [List.getElem?_set_ne (by omega), List.getElem?_set_ne (by omega)]
    exact h.old j (by omega)
end

set_option linter.unusedVariables false
set_option linter.unusedSimpArgs false
theorem kepC_at {bl : List Bk} {k : Nat} {u : Bk} (h : bl[k]? = some u) : (kepC bl)[k]? = some ⟨u.pc, kepL (wS bl k) u.ins, u.nx⟩ := by
  unfold kepC
  rw [List.getElem?_mapIdx, h]
  rfl
theorem kepC_len (bl : List Bk) : (kepC bl).length = bl.length := by unfold kepC; exact List.length_mapIdx
theorem Ro.cells8 {X : World} {b N : Nat} {As : List Wd} (h : Ro X 8 (.slice (some ⟨b, 0, none⟩) N N) N (flt enW As)) (hl : As.length = N) {k : Nat} {A : Wd} (hA : As[k]? = some A) : b < X.heap.size ∧ X.cell? ⟨b, k * 8, none⟩ = some (.int .u64 (A 0)) ∧ X.cell? ⟨b, k * 8 + 1, none⟩ = some (.int .u64 (A 1)) ∧ X.cell? ⟨b, k * 8 + 2, none⟩ = some (.int .u64 (A 2)) ∧ X.cell? ⟨b, k * 8 + 3, none⟩ = some (.int .u64 (A 3)) ∧ X.cell? ⟨b, k * 8 + 4, none⟩ = some (.int .u64 (A 4)) ∧ X.cell? ⟨b, k * 8 + 5, none⟩ = some (.int .u64 (A 5)) ∧ X.cell? ⟨b, k * 8 + 6, none⟩ = some (.int .u64 (A 6)) ∧ X.cell? ⟨b, k * 8 + 7, none⟩ = some (.int .u64 (A 7)) := by
  obtain ⟨h1, h2⟩ := h.cellAt zW hl hA
  have e : ∀ j, (⟨b, 0 + k * 8 + j, none⟩ : Addr) = ⟨b, k * 8 + j, none⟩ := fun j => by rw [Nat.zero_add]
  refine ⟨h1, ?_, ?_, ?_, ?_, ?_, ?_, ?_, ?_⟩
  · rw [← Nat.add_zero (k * 8), ← e]; exact h2 0 _ rfl
  · rw [← e]; exact h2 1 _ rfl
  · rw [← e]; exact h2 2 _ rfl
  · rw [← e]; exact h2 3 _ rfl
  · rw [← e]; exact h2 4 _ rfl
  · rw [← e]; exact h2 5 _ rfl
  · rw [← e]; exact h2 6 _ rfl
  · rw [← e]; exact h2 7 _ rfl
set_option maxRecDepth 100000 in
set_option maxHeartbeats 12800000 in
theorem run_any {w : World} {D : Nat → Prop} {fn regs : Int} {bl : List Bk} {v : Value} (h : BksV D w bl v) (hO : ∀ b ∈ bl, OkL b) (hN : bl.length ≤ 1048576) :
    Calls Tryd.prog 15 #[.agg #[.int .i64 fn, .int .i64 regs, v]] w fun e w' => AnsC w fn regs (kepC bl) e w' := by
  have HBK : Hid (∀ W, Below w.heap.size w W → BksV D W bl v) := fun W hW => BksV.mv D D (fun _ => False) w W bl v h (Fr.of_below hW) (fun k hk d => ⟨fun q => q, d⟩)
  obtain ⟨rs0, h1, h2, h3⟩ := h
  have hone : ∀ u ∈ flt enBk rs0, u.oneCell' = true := fun u hu => by
    obtain ⟨x, hx, h4⟩ := List.mem_flatMap.1 hu
    obtain ⟨i, hi, rfl⟩ := List.getElem_of_mem hx
    have hil : i < bl.length := by omega
    have h5 := h3 i _ _ (List.getElem?_eq_getElem hil) (List.getElem?_eq_getElem hi)
    obtain ⟨a, c, e, _, _⟩ := NV.shape h5.2.1
    obtain ⟨a2, c2, e2, _, _⟩ := h5.2.2.1.shape
    simp only [enBk, List.mem_cons, List.not_mem_nil, or_false] at h4
    rcases h4 with rfl | rfl | rfl
    · rfl
    · rw [e]; rfl
    · rw [e2]; rfl
  obtain ⟨a, c, ev, ha1, ha2⟩ := h2.1.shape
  subst ev
  obtain ⟨L, hL⟩ : ∃ L, Hid (bl.length = L) := ⟨_, hide rfl⟩
  have B2 := BX.two w #[.int .i64 fn, .int .i64 regs, .slice a L c] #[.int .i64 0, .int .i64 0, .slice none 0 0] 24 24
  have HWN : Hid (∀ W, Below w.heap.size w W → Calls Tryd.prog 23 #[.slice a L c] W fun e w' => ∃ As : List Wd, e = .returned (.slice (some ⟨W.heap.size, 0, none⟩) L L) ∧ Below W.heap.size W w' ∧ As.length = L ∧ (∀ A ∈ As, OkW A) ∧ Ro w' 8 (.slice (some ⟨W.heap.size, 0, none⟩) L L) L (flt enW As) ∧ ∀ b, Bof As b = wS bl b) := fun W hW => by
    have q := wanted_any (unhide HBK W hW) hN (fun u hu => (hO u hu).2.1) (fun u hu => (hO u hu).1)
    rw [unhide hL] at q
    exact q
  have HCB : Hid (∀ W, Below w.heap.size w W → Calls Tryd.prog 31 #[.slice a L c] W fun e w' => ∃ v', e = .returned v' ∧ Gx W 3 enBk rs0 v' w') := fun W hW => cloneB_any (w := W) (v := .slice a L c) (l := rs0) (by
    have q := h2.1
    rw [← h1] at q
    rw [← unhide hL, ← h1]
    exact q.below hW (Nat.le_refl _)) hone (by omega)
  have H3 := hide h3
  have H1 := hide h1
  have HO := hide hO
  rw [unhide hL] at hN ha1 ⊢
  clear h2 h3 hone hO
  unfold maxLen at ha2
  have HB2 := hide B2
  have hb2s : ((w.alloc (.cells #[.int .i64 fn, .int .i64 regs, .slice a L c] 24)).alloc (.cells #[.int .i64 0, .int .i64 0, .slice none 0 0] 24)).heap.size = w.heap.size + 2 := by simp
  clear B2
  obtain ⟨W0, hW0⟩ : ∃ z, Hid ((w.alloc (.cells #[.int .i64 fn, .int .i64 regs, .slice a L c] 24)).alloc (.cells #[.int .i64 0, .int .i64 0, .slice none 0 0] 24) = z) := ⟨_, hide rfl⟩
  rw [unhide hW0] at HB2 hb2s
  have hW0' := unhide hW0
  have z2 := (unhide HB2).ce 0 rfl 2
  have zl := (unhide HB2).lt (i := 0) rfl
  simp at z2 zl
  go_enter Tryd.func15, Tryd.ntmps15
  go_wp2_with fail
  refine (unhide HWN _ (unhide HB2).b).mono ?_
  rintro e w0 ⟨As, rfl, hbA, hAl, hAo, hAr, hAB⟩
  have HX0 := hide ((unhide HB2).go hbA)
  have HAR := hide hAr
  rw [hb2s] at HAR ⊢
  have HAB := hide hAB
  have HAO := hide hAo
  have HAL := hide hAl
  clear hbA hAl hAo hAr hAB z2 zl hW0' hW0 HB2
  have y2 := (unhide HX0).ce 0 rfl 2
  have yl := (unhide HX0).lt (i := 0) rfl
  simp at y2 yl
  go_wp2_with fail
  refine (unhide HCB _ (unhide HX0).b).mono ?_
  rintro e w1 ⟨v', rfl, hG⟩
  have HX1 := hide ((unhide HX0).go hG.2.1)
  have HG := hide hG
  obtain ⟨va, vc, ev, hv1, hv2⟩ := hG.1.shape
  rw [unhide H1, unhide hL] at ev
  rw [unhide H1, unhide hL] at hv1
  subst ev
  unfold maxLen at hv2
  have q2 := (unhide HX1).ce 0 rfl 2
  have qf : w1.frozen? ⟨w.heap.size, 2, none⟩ = false := (blk_cells ((unhide HX1).h 0 _ rfl)).2.1 2
  have ql := (unhide HX1).lt (i := 0) rfl
  simp at q2 ql
  clear hG y2 yl
  obtain ⟨Y0, hY0⟩ : ∃ z, Hid (w1.setCell ⟨w.heap.size, 2, none⟩ (.slice va L vc) = z) := ⟨_, hide rfl⟩
  have hY0' := unhide hY0
  have HFS : Hid (Fr (fun q => q = w.heap.size) w1 Y0) := by rw [← unhide hY0]; exact Fr.setCell (S := fun q => q = w.heap.size) (Fr.refl _ w1) ⟨w.heap.size, 2, none⟩ (.inr rfl) _
  have HRS : Hid (RL w (w.heap.size + 2) fn regs L (kepC bl) rs0 (.slice va L vc) As 0 (rs0.map (fun r => (r, ([] : List TI)))) Y0) := by
    have hbl : w.heap.size + 2 < w0.heap.size := (unhide HAR).lt _ rfl
    have hG := unhide HG
    refine ⟨(unhide HX1).b.trans ((unhide HFS).below (by have := (unhide HX1).b.size; omega) (fun q hq e => by omega)), by omega, ?_, ((unhide HFS).block _ ((unhide HX1).lt (i := 1) rfl) (by simp)).trans ((unhide HX1).h 1 _ rfl), ?_, fun j _ => ?_, ?_⟩
    · rw [← unhide hY0, setCell_block ((unhide HX1).h 0 _ rfl)]
      simp
    · have hs := RI.start (P := PB (w.heap.size + 2)) (bl := blB) (B := w.heap.size + 3) (en := enTB) (sz := 3) (us := kepC bl) (X0 := rs0.map (fun r => (r, ([] : List TI)))) (v := .slice va L vc) (w := w0) (w' := w1) (by rw [List.length_map, kepC_len]; exact unhide H1) ⟨by rw [fltTB, List.length_map]; exact hG.1, hG.2.1, hG.2.2⟩ (by omega)
      exact hs.fr (stayB _) (unhide HFS) (fun q hq hq2 e => by omega)
    · rw [List.getElem?_map]
      cases rs0[j]? <;> rfl
    · exact ((unhide HAR).fr (Fr.of_below (S := fun _ => False) hG.2.1) (fun _ _ e => e)).fr (unhide HFS) (fun q hq e => by have := own_eq hq; omega)
  clear HG
  have hc2 := (blk_cells (unhide HRS).box).1 2
  have hcl := (blk_cells (unhide HRS).box).2.2
  simp at hc2 hcl
  go_wp2_with fail
  clear q2 qf ql hY0 hY0' HFS hc2 hcl HX0 HX1 HAR
  obtain ⟨b, hb⟩ : ∃ b, Hid (w.heap.size + 2 = b) := ⟨_, hide rfl⟩
  rw [unhide hb] at HRS
  simp only [unhide hb]
  go_loopg [16] L (fun gg t16 wr => ∃ (k : Nat) (X0 : List TB), Hid (k + gg = L) ∧ t16 = .int .i64 (k : Int) ∧ Hid (RL w b fn regs L (kepC bl) rs0 (.slice va L vc) As k X0 wr))
  case atStart => exact ⟨0, _, by unfold Hid; omega, rfl, HRS⟩
  case round =>
    clear HRS
    obtain ⟨k, X0, hk, rfl, hS⟩ := hrel
    by_cases hlt : k < L
    case neg =>
      have hkL : L = k := by have := unhide hk; omega
      subst hkL
      have i1 : ¬ (L : Int) < (L : Int) := by omega
      have c0 := (blk_cells (unhide hS).box).1 0
      have c1 := (blk_cells (unhide hS).box).1 1
      have c2 := (blk_cells (unhide hS).box).1 2
      have cl := (blk_cells (unhide hS).box).2.2
      have r0 := (blk_cells (unhide hS).res).1 0
      have r1 := (blk_cells (unhide hS).res).1 1
      have r2 := (blk_cells (unhide hS).res).1 2
      have rf0 := (blk_cells (unhide hS).res).2.1 0
      have rf1 := (blk_cells (unhide hS).res).2.1 1
      have rf2 := (blk_cells (unhide hS).res).2.1 2
      have rl := (blk_cells (unhide hS).res).2.2
      simp at c0 c1 c2 cl r0 r1 r2 rl
      have HW : Hid (∀ W, Fr (fun q => q = w.heap.size + 1) wr W → AnsC w fn regs (kepC bl) (.returned (.agg #[.int .i64 fn, .int .i64 regs, .slice va L vc])) W) := fun W hW => by
        have hbv := unhide hb
        have q := ((unhide hS).ri.ow (by rw [kepC_len, unhide hL]; exact Nat.le_refl _)).imp (fun u x hp => hp.zero)
        exact ⟨_, X0, rfl, (unhide hS).bw.trans (hW.below (unhide hS).bw.size (fun q hq e => by omega)), (OW.frZ (stayB 0) q hW (fun z hz hz2 e => by have hz3 : b + 1 ≤ z := hz2; omega)).mono (fun z _ hz => by have hz3 : b + 1 ≤ z := hz; show w.heap.size ≤ z; omega)⟩
      go_wp2_with fail
      refine bodyPost_ret (v := .agg #[.int .i64 fn, .int .i64 regs, .slice va L vc]) ?_ rfl ?_
      · rw [results_cell_one rfl]
        go_simp
      · apply unhide HW
        repeat (first | refine Fr.setCell (S := fun q => q = w.heap.size + 1) ?_ _ (.inr rfl) _ | with_reducible exact Fr.refl _ _)
    have i0 : (0 : Int) ≤ (k : Int) := by omega
    have i1 : (k : Int) < (L : Int) := by omega
    obtain ⟨u, hu⟩ : ∃ s, bl[k]? = some s := ⟨_, List.getElem?_eq_getElem (by rw [unhide hL]; exact hlt)⟩
    obtain ⟨r, hr⟩ : ∃ s, rs0[k]? = some s := ⟨_, List.getElem?_eq_getElem (by rw [unhide H1, unhide hL]; exact hlt)⟩
    obtain ⟨A, hA⟩ : ∃ A, As[k]? = some A := ⟨_, List.getElem?_eq_getElem (by rw [unhide HAL]; exact hlt)⟩
    have hOA : OkW A := unhide HAO A (List.mem_of_getElem? hA)
    have HSA : Hid (sS A = wS bl k) := by have q := unhide HAB k; rw [Bof_at hA] at q; exact q
    have hku := kepC_at hu
    rw [← unhide HSA] at hku
    obtain ⟨p1, p2, p3⟩ := unhide H3 k u r hu hr
    obtain ⟨ia, ic, ei, hi1, hi2⟩ := NV.shape p2
    obtain ⟨na, nc, en, hn1, hn2⟩ := p3.1.shape
    obtain ⟨rpc, riv, rnv⟩ := r
    simp only at p1 p2 p3 ei en
    subst p1 ei en
    have HOU := hide (unhide HO u (List.mem_of_getElem? hu))
    obtain ⟨IL, hIL⟩ : ∃ z, Hid (u.ins.length = z) := ⟨_, hide rfl⟩
    obtain ⟨NL, hNL⟩ : ∃ z, Hid (u.nx.length = z) := ⟨_, hide rfl⟩
    have HPI : Hid (∀ W, Below w.heap.size w W → InsV D W u.ins (.slice ia u.ins.length ic)) := fun W hW => InsV.mv _ _ _ _ _ _ _ p2 (Fr.of_below (S := fun _ => False) hW) (fun q hq d => ⟨fun e => e, d⟩)
    have HPN : Hid (∀ W, Below w.heap.size w W → Rx W 1 (.slice na u.nx.length nc) u.nx.length (flt enI u.nx)) := fun W hW => p3.1.below hW (Nat.le_refl _)
    clear p2 p3
    rw [unhide hIL] at hi1 HPI hr
    rw [unhide hNL] at hn1 HPN hr
    unfold maxLen at hi2 hn2
    have hul := kepC_len bl
    rw [unhide hL] at hul
    obtain ⟨x0, hx0⟩ : ∃ s, X0[k]? = some s := ⟨_, List.getElem?_eq_getElem (by rw [(unhide hS).ri.len, hul]; exact hlt)⟩
    have hx1 : x0.1 = ⟨u.pc, .slice ia IL ic, .slice na NL nc⟩ := by
      have q := (unhide hS).old k (Nat.le_refl _)
      rw [hx0, hr] at q
      simpa using q
    have hrow : ∀ V, RL w b fn regs L (kepC bl) rs0 (.slice va L vc) As k X0 V → Ro V 3 (.slice va L vc) X0.length (flt enTB X0) := fun V hV => by have q := hV.ri.row; rw [hV.ri.len]; exact q
    obtain ⟨g, off, cc, eg, _, _, hgl, hgcell⟩ := (Rx.of_ro (hrow wr (unhide hS))).elem zTB hx0
    obtain ⟨e5, e6⟩ : va = some ⟨g, off, none⟩ ∧ vc = cc := by cases eg; exact ⟨rfl, rfl⟩
    subst e5
    subst e6
    clear eg
    have HCC : Hid (∀ V, RL w b fn regs L (kepC bl) rs0 (.slice (some ⟨g, off, none⟩) L vc) As k X0 V → g < V.heap.size ∧ V.cell? ⟨g, off + k * 3 + 1, none⟩ = some (.slice ia IL ic) ∧ V.cell? ⟨g, off + k * 3 + 2, none⟩ = some (.slice na NL nc)) := fun V hV => by
      obtain ⟨g', off', cc', eg', _, _, hgl', hgcell'⟩ := (Rx.of_ro (hrow V hV)).elem zTB hx0
      cases eg'
      unfold enTB at hgcell'
      rw [hx1] at hgcell'
      exact ⟨hgl', hgcell' 1 _ rfl, hgcell' 2 _ rfl⟩
    have c2 := (blk_cells (unhide hS).box).1 2
    have cl := (blk_cells (unhide hS).box).2.2
    simp at c2 cl
    have HU := hide hku
    have HR := hide hr
    have HAA := hide hA
    have HUL := hide hul
    clear hx0 hx1 hrow hgcell hu hr hku hA hul
    go_wp2_with fail
    obtain ⟨Y, hY⟩ : ∃ W, Hid (wr.drew = W) := ⟨_, hide rfl⟩
    have HSY : Hid (RL w b fn regs L (kepC bl) rs0 (.slice (some ⟨g, off, none⟩) L vc) As k X0 Y) := by rw [← unhide hY]; exact (unhide hS).on (bl_drew wr)
    have HSS : Hid (Below Y.heap.size Y Y) := Below.refl _ _
    have HC1 : Hid (∀ V, Below Y.heap.size Y V → g < V.heap.size ∧ V.cell? ⟨g, off + k * 3 + 1, none⟩ = some (.slice ia IL ic) ∧ V.cell? ⟨g, off + k * 3 + 2, none⟩ = some (.slice na NL nc)) := fun V hV => unhide HCC V ((unhide HSY).on hV)
    have HC2 : Hid (∀ V, Below Y.heap.size Y V → b < V.heap.size ∧ V.cell? ⟨b, k * 8, none⟩ = some (.int .u64 (A 0)) ∧ V.cell? ⟨b, k * 8 + 1, none⟩ = some (.int .u64 (A 1)) ∧ V.cell? ⟨b, k * 8 + 2, none⟩ = some (.int .u64 (A 2)) ∧ V.cell? ⟨b, k * 8 + 3, none⟩ = some (.int .u64 (A 3)) ∧ V.cell? ⟨b, k * 8 + 4, none⟩ = some (.int .u64 (A 4)) ∧ V.cell? ⟨b, k * 8 + 5, none⟩ = some (.int .u64 (A 5)) ∧ V.cell? ⟨b, k * 8 + 6, none⟩ = some (.int .u64 (A 6)) ∧ V.cell? ⟨b, k * 8 + 7, none⟩ = some (.int .u64 (A 7))) := fun V hV => ((unhide HSY).on hV).bh.cells8 (unhide HAL) (unhide HAA)
    refine wp_region_later (S := fun V => Below Y.heap.size Y V) (m := 18) (by kernel_rfl) ?_
    rw [unhide hY]
    clear hY c2 cl hS HCC
    refine wpAnyL_takeU (i := 0) (oi := _) (v := .pointer (some ⟨g, off + k * 3, none⟩)) rfl (by kernel_rfl) (by kernel_rfl) (by kernel_rfl) (by decide) (fun _ _ _ h => h) (Or.inl ⟨by rfl, (by intro w' _; go_simp)⟩) (fun _ => unhide HSS) ?_
    go_simp
    refine wpAnyL_takeU (i := 1) (oi := _) (v := .pointer (some ⟨g, off + k * 3, none⟩)) rfl (by kernel_rfl) (by kernel_rfl) (by kernel_rfl) (by decide) (fun _ _ _ h => h) (Or.inl ⟨by rfl, (by intro w' _; go_simp)⟩) (fun _ => unhide HSS) ?_
    go_simp
    refine wpAnyL_takeU (i := 2) (oi := _) (v := .pointer (some ⟨g, off + k * 3, none⟩)) rfl (by kernel_rfl) (by kernel_rfl) (by kernel_rfl) (by decide) (fun _ _ _ h => h) (Or.inl ⟨by rfl, (by intro w' _; go_simp)⟩) (fun _ => unhide HSS) ?_
    go_simp
    refine wpAnyL_takeU (i := 3) (oi := _) (v := .pointer (some ⟨g, off + k * 3, none⟩)) rfl (by kernel_rfl) (by kernel_rfl) (by kernel_rfl) (by decide) (fun _ _ _ h => h) (Or.inl ⟨by rfl, (by intro w' _; go_simp)⟩) (fun _ => unhide HSS) ?_
    go_simp
    refine wpAnyL_takeU (i := 4) (oi := _) (v := .pointer (some ⟨g, off + k * 3 + 1, none⟩)) rfl (by kernel_rfl) (by kernel_rfl) (by kernel_rfl) (by decide) (fun _ _ _ h => h) (Or.inl ⟨by rfl, (by intro w' _; go_simp)⟩) (fun _ => unhide HSS) ?_
    go_simp
    refine wpAnyL_take (i := 5) (oi := _) (om := _) (v := .slice ia IL ic) rfl rfl (by kernel_rfl) (by kernel_rfl) (by kernel_rfl) (by kernel_rfl) (by decide) (by kernel_rfl) (fun _ _ _ h => h) (Or.inl ⟨by rfl, (by intro w' hSw; obtain ⟨gl, s1, s2⟩ := unhide HC1 w' hSw; go_simp; first | done | rfl)⟩) (unhide HSS) ?_
    go_simp
    refine wpAnyL_takeU (i := 6) (oi := _) (v := .slice (some ⟨b, 0, none⟩) L L) rfl (by kernel_rfl) (by kernel_rfl) (by kernel_rfl) (by decide) (fun _ _ _ h => h) (Or.inl ⟨by rfl, (by intro w' _; go_simp)⟩) (fun _ => unhide HSS) ?_
    go_simp
    refine wpAnyL_takeU (i := 7) (oi := _) (v := .int .i64 (k : Int)) rfl (by kernel_rfl) (by kernel_rfl) (by kernel_rfl) (by decide) (fun _ _ _ h => h) (Or.inl ⟨by rfl, (by intro w' _; go_simp)⟩) (fun _ => unhide HSS) ?_
    go_simp
    refine wpAnyL_takeU (i := 8) (oi := _) (v := .pointer (some ⟨b, k * 8, none⟩)) rfl (by kernel_rfl) (by kernel_rfl) (by kernel_rfl) (by decide) (fun _ _ _ h => h) (Or.inl ⟨by rfl, (by intro w' _; go_simp)⟩) (fun _ => unhide HSS) ?_
    go_simp
    refine wpAnyL_take (i := 9) (oi := _) (om := _) (v := .agg (wdA A)) rfl rfl (by kernel_rfl) (by kernel_rfl) (by kernel_rfl) (by kernel_rfl) (by decide) (by kernel_rfl) (fun _ _ _ h => h) (Or.inl ⟨by rfl, (by intro w' hSw; obtain ⟨e0, a0, a1, a2, a3, a4, a5, a6, a7⟩ := unhide HC2 w' hSw; go_simp; first | done | rfl)⟩) (unhide HSS) ?_
    go_simp
    refine wpAnyL_takeU (i := 11) (oi := _) (v := .pointer (some ⟨g, off + k * 3, none⟩)) rfl (by kernel_rfl) (by kernel_rfl) (by kernel_rfl) (by decide) (fun _ _ _ h => h) (Or.inl ⟨by rfl, (by intro w' _; go_simp)⟩) (fun _ => unhide HSS) ?_
    go_simp
    refine wpAnyL_takeU (i := 12) (oi := _) (v := .pointer (some ⟨g, off + k * 3, none⟩)) rfl (by kernel_rfl) (by kernel_rfl) (by kernel_rfl) (by decide) (fun _ _ _ h => h) (Or.inl ⟨by rfl, (by intro w' _; go_simp)⟩) (fun _ => unhide HSS) ?_
    go_simp
    refine wpAnyL_takeU (i := 13) (oi := _) (v := .pointer (some ⟨g, off + k * 3 + 2, none⟩)) rfl (by kernel_rfl) (by kernel_rfl) (by kernel_rfl) (by decide) (fun _ _ _ h => h) (Or.inl ⟨by rfl, (by intro w' _; go_simp)⟩) (fun _ => unhide HSS) ?_
    go_simp
    refine wpAnyL_take (i := 14) (oi := _) (om := _) (v := .slice na NL nc) rfl rfl (by kernel_rfl) (by kernel_rfl) (by kernel_rfl) (by kernel_rfl) (by decide) (by kernel_rfl) (fun _ _ _ h => h) (Or.inl ⟨by rfl, (by intro w' hSw; obtain ⟨gl, s1, s2⟩ := unhide HC1 w' hSw; go_simp; first | done | rfl)⟩) (unhide HSS) ?_
    go_simp
    have HC7 := hide (kept_any (w := Y) (A := A) (unhide HPI Y (unhide HSY).bw) hOA (unhide HOU).1 (unhide HOU).2.2)
    unfold stV at HC7
    refine wpAnyL_one (i := 10) (o := _) (by kernel_rfl) rfl (fun K hK => ?_)
    go_simp
    refine (unhide HC7).mono ?_
    rintro e w3 ⟨lv, ts, rfl, hB3, hT⟩
    have HT := hide hT
    have HB3 := hide hB3
    obtain ⟨la, lc, elv, -, -⟩ := hT.row.shape
    subst elv
    have HS3 := hide ((unhide HSY).on hB3)
    clear hT HC7 hB3
    refine hK _ _ (fun _ => unhide HB3) ?_
    clear hK K
    go_simp
    have HC12 := hide (cloneN_any (w := w3) (v := .slice na NL nc) (l := u.nx) (by rw [unhide hNL]; exact unhide HPN w3 (unhide HS3).bw) (oneN _) (unhide HOU).2.1)
    refine wpAnyL_one (i := 15) (o := _) (by kernel_rfl) rfl (fun K hK => ?_)
    go_simp
    refine (unhide HC12).mono ?_
    rintro e w4 ⟨nv', rfl, hG4⟩
    obtain ⟨xa, xc, enx, -, -⟩ := hG4.1.shape
    subst enx
    have HB4 : Hid (Below Y.heap.size Y w4) := (unhide HB3).trans (hG4.2.1.mono (unhide HB3).size)
    obtain ⟨X1, hX1⟩ := (unhide HSY).step (unhide HU) (unhide HR) rfl (unhide HB3) (unhide HT) hG4 (g := g) (off := off) (cap := vc) (by rw [unhide HUL])
    have HX1 := hide hX1
    have HF4 : Hid (∀ z, w4.frozen? ⟨g, z, none⟩ = false) := fun z => by
      have q := ((unhide HSY).on (unhide HB4)).ri.row
      rw [unhide HUL] at q
      exact q.free rfl z
    clear hG4 HC12 hX1
    refine hK _ _ (fun _ => unhide HB4) ?_
    clear hK K
    go_simp
    refine wpAnyL_takeU (i := 16) (oi := _) (v := .pointer (some ⟨g, off + k * 3, none⟩)) rfl (by kernel_rfl) (by kernel_rfl) (by kernel_rfl) (by decide) (fun _ _ _ h => h) (Or.inl ⟨by rfl, (by intro w' _; go_simp)⟩) (fun _ => unhide HB4) ?_
    go_simp
    refine wpAnyL_takeU (i := 17) (oi := _) (v := .pointer (some ⟨g, off + k * 3 + 1, none⟩)) rfl (by kernel_rfl) (by kernel_rfl) (by kernel_rfl) (by decide) (fun _ _ _ h => h) (Or.inl ⟨by rfl, (by intro w' _; go_simp)⟩) (fun _ => unhide HB4) ?_
    go_simp
    obtain ⟨gl4, s1, s2⟩ := unhide HC1 w4 (unhide HB4)
    have s1f := unhide HF4 (off + k * 3 + 1)
    refine wpAnyL_one (i := 18) (o := _) (by kernel_rfl) rfl (fun K hK => ?_)
    go_simp
    refine hK _ _ (fun h => absurd h (by decide)) ?_
    clear hK K
    go_simp
    refine wpAnyL_takeU (i := 19) (oi := _) (v := .pointer (some ⟨g, off + k * 3, none⟩)) rfl (by kernel_rfl) (by kernel_rfl) (by kernel_rfl) (by decide) (fun _ _ _ h => h) (Or.inl ⟨by rfl, (by intro w' _; go_simp)⟩) (fun h => absurd h (by decide)) ?_
    go_simp
    refine wpAnyL_takeU (i := 20) (oi := _) (v := .pointer (some ⟨g, off + k * 3 + 2, none⟩)) rfl (by kernel_rfl) (by kernel_rfl) (by kernel_rfl) (by decide) (fun _ _ _ h => h) (Or.inl ⟨by rfl, (by intro w' _; go_simp)⟩) (fun h => absurd h (by decide)) ?_
    go_simp
    have s2f := unhide HF4 (off + k * 3 + 2)
    refine wpAnyL_one (i := 21) (o := _) (by kernel_rfl) rfl (fun K hK => ?_)
    go_simp
    refine hK _ _ (fun h => absurd h (by decide)) ?_
    clear hK K
    go_simp
    refine wpAnyL_done (by kernel_rfl) ?_ _
    clear s1 s1f s2 s2f gl4
    go_wp2_with fail
    go_roundg (gk - 1)
    case measure => have := unhide hk; omega
    case rel => exact ⟨k + 1, X1, by have := unhide hk; unfold Hid; omega, by go_num, HX1⟩
end Go.Proofs.YtpbdmbmafjkinaaDoor
