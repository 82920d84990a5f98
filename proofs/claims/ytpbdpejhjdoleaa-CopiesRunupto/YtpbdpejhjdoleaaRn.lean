/-
  copies.Run.
-/
import Derived.Test.YtpbdpejhjdoleaaRn0
namespace Go.Proofs.Ytpbdpejhjdoleaa
open Go.RowKit
set_option linter.unusedVariables false
set_option linter.unusedSimpArgs false
theorem oneN (l : List Int) : ∀ u ∈ flt enI l, u.oneCell' = true := fun u hu => by
  obtain ⟨x, _, h2⟩ := List.mem_flatMap.1 hu
  simp only [enI, List.mem_cons, List.not_mem_nil, or_false] at h2
  subst h2
  rfl
theorem fltTB (l : List BkR) : flt enTB (l.map (fun r => (r, ([] : List TI)))) = flt enBk l := by simp only [flt, List.flatMap_map]; rfl
theorem PB.zero {b : Nat} {w : World} {u : Bk} {t : TB} (h : PB b w u t) : PB 0 w u t :=
  ⟨h.pc, h.ow.mono (fun k _ hk => by have hk' : b < k := hk; show 0 < k; omega), h.nx, fun k hk => ⟨by have := (h.nb k hk).1; omega, (h.nb k hk).2⟩⟩
theorem OW.imp {T U : Type} {en : T → List Value} {sz : Nat} {P P' : World → U → T → Prop} {bl : T → Nat → Prop} {Z : Nat → Prop} {w : World} {v : Value} {us : List U} {xs : List T} (h : OW en sz P bl Z w v us xs) (hp : ∀ u x, P w u x → P' w u x) : OW en sz P' bl Z w v us xs :=
  ⟨h.len, h.row, h.rb, fun i u x hu hx => hp u x (h.el i u x hu hx), h.eb, h.ap⟩
/-- What Run has answered. -/
def AnsC (w : World) (fn regs : Int) (bl : List Bk) (e : Ending) (w' : World) : Prop :=
  ∃ v' Ts, e = .returned (.agg #[.int .i64 fn, .int .i64 regs, v']) ∧ Below w.heap.size w w' ∧ OW enTB 3 (PB 0) blB (fun k => w.heap.size ≤ k) w' v' bl Ts
def OkB (b : Bk) : Prop := (∀ x ∈ b.ins, OkI x) ∧ b.ins.length ≤ 1048576 ∧ b.nx.length ≤ 1048576 ∧ ∀ x ∈ b.ins, x.args.length ≤ 1048576 ∧ x.ex.length ≤ 1048576 ∧ ∀ s ∈ x.ex, s.sl.length ≤ 1048576
set_option maxRecDepth 100000 in
set_option maxHeartbeats 12800000 in
theorem run_any {w : World} {D : Nat → Prop} {fn regs : Int} {bl : List Bk} {v : Value} (h : BksV D w bl v) (hO : ∀ b ∈ bl, OkB b) (hN : bl.length ≤ 1048576) :
    Calls Try.prog 10 #[.agg #[.int .i64 fn, .int .i64 regs, v]] w fun e w' => AnsC w fn regs (bl.map bkT) e w' := by
  obtain ⟨rs0, h1, h2, h3⟩ := h
  have hone : ∀ u ∈ flt enBk rs0, u.oneCell' = true := fun u hu => by
    obtain ⟨x, hx, h4⟩ := List.mem_flatMap.1 hu
    obtain ⟨i, hi, rfl⟩ := List.getElem_of_mem hx
    have hil : i < bl.length := by omega
    have h5 := h3 i _ _ (List.getElem?_eq_getElem hil) (List.getElem?_eq_getElem hi)
    obtain ⟨a, c, e, _, _⟩ := NV.shape h5.2.1
    obtain ⟨a2, c2, e2, _, _⟩ := h5.2.2.1.shape
    simp only [enBk, List.mem_cons, List.not_mem_nil, or_false] at h4
    rcases h4 with rfl | rfl | rfl
    · rfl
    · rw [e]; rfl
    · rw [e2]; rfl
  obtain ⟨a, c, ev, ha1, ha2⟩ := h2.1.shape
  subst ev
  obtain ⟨L, hL⟩ : ∃ L, Hid (bl.length = L) := ⟨_, hide rfl⟩
  have B2 := BX.two w #[.int .i64 fn, .int .i64 regs, .slice a L c] #[.int .i64 0, .int .i64 0, .slice none 0 0] 24 24
  have HC := hide (cloneB_any (w := ((w.alloc (.cells #[.int .i64 fn, .int .i64 regs, .slice a L c] 24)).alloc (.cells #[.int .i64 0, .int .i64 0, .slice none 0 0] 24))) (v := .slice a L c) (l := rs0) (by
    have q := h2.1
    rw [← h1] at q
    rw [← unhide hL, ← h1]
    exact q.below (bl_two w _ _) (Nat.le_refl _)) hone (by omega))
  have H3 := hide h3
  have H1 := hide h1
  have HO := hide hO
  rw [unhide hL] at hN ha1 ⊢
  clear h2 h3 hone hO
  unfold maxLen at ha2
  have HB2 := hide B2
  clear B2
  go_enter Try.func10, Try.ntmps10
  go_wp2_with fail
  refine (unhide HC).mono ?_
  rintro e w1 ⟨v', rfl, hG⟩
  have HX1 := hide ((unhide HB2).go hG.2.1)
  have HG := hide hG
  obtain ⟨va, vc, ev, hv1, hv2⟩ := hG.1.shape
  rw [unhide H1, unhide hL] at ev
  rw [unhide H1, unhide hL] at hv1
  subst ev
  unfold maxLen at hv2
  have q2 := (unhide HX1).ce 0 rfl 2
  have qf : w1.frozen? ⟨w.heap.size, 2, none⟩ = false := (blk_cells ((unhide HX1).h 0 _ rfl)).2.1 2
  have ql := (unhide HX1).lt (i := 0) rfl
  simp at q2 ql
  have hmm := @run_makeMap Try.prog
  clear hG HC HB2
  go_wp2_with fail
  have hb0 : w.heap.size + 1 < w1.heap.size := (unhide HX1).lt (i := 1) rfl
  have hsz : (w1.setCell ⟨w.heap.size, 2, none⟩ (.slice va L vc)).heap.size = w1.heap.size := setCells_size w.heap.size [.slice va L vc] 2 w1
  have HFS : Hid (Fr (fun q => q = w.heap.size) w1 (w1.setCell ⟨w.heap.size, 2, none⟩ (.slice va L vc))) := Fr.setCell (S := fun q => q = w.heap.size) (Fr.refl _ w1) ⟨w.heap.size, 2, none⟩ (.inr rfl) _
  have HFA : Hid (Fr (fun q => q = w.heap.size) w1 ((w1.setCell ⟨w.heap.size, 2, none⟩ (.slice va L vc)).alloc (.map #[] 0))) := (unhide HFS).trans (Fr.of_below (box1n _ _))
  have HRS : Hid (RS w w1.heap.size fn regs bl rs0 (.slice va L vc) 0 (rs0.map (fun r => (r, ([] : List TI)))) ((w1.setCell ⟨w.heap.size, 2, none⟩ (.slice va L vc)).alloc (.map #[] 0))) := by
    refine ⟨(unhide HX1).b.trans ((unhide HFA).below (by omega) (fun q hq e => by omega)), hb0, ?_, ((unhide HFA).block _ (by omega) (by omega)).trans ((unhide HX1).h 1 _ rfl), ⟨0, f0, by have q := MfW.made (w1.setCell ⟨w.heap.size, 2, none⟩ (.slice va L vc)); rw [hsz] at q; exact q⟩, ?_, fun j _ => by rw [List.getElem?_map]; cases rs0[j]? <;> rfl, fun e => by have := (unhide HG).1.lt _ e; omega⟩
    · rw [Below.heap_alloc _ _ _ (by rw [hsz]; omega), setCell_block ((unhide HX1).h 0 _ rfl)]
      simp
    · refine (RI.start (w := ((w.alloc (.cells #[.int .i64 fn, .int .i64 regs, .slice a L c] 24)).alloc (.cells #[.int .i64 0, .int .i64 0, .slice none 0 0] 24))) (w' := w1) (by rw [List.length_map, List.length_map]; exact unhide H1) ⟨by rw [fltTB, List.length_map, unhide H1, unhide hL]; have q := (unhide HG).1; rw [unhide H1, unhide hL] at q; exact q, (unhide HG).2.1, (unhide HG).2.2⟩ (by simp only [World.size_alloc]; omega)).frx (stayB _) (unhide HFA) (fun q hq e => by have := (unhide HG).2.2 q hq; simp only [World.size_alloc] at this; omega) (fun j x q hj => absurd hj (by omega))
  obtain ⟨b, hb⟩ : ∃ b, Hid (w1.heap.size = b) := ⟨_, hide rfl⟩
  rw [unhide hb] at HRS
  simp only [unhide hb]
  clear hmm q2 qf ql hb0 hsz HFS HFA HG
  go_loopg [14] L (fun gg t14 wr => ∃ (k : Nat) (X0 : List TB), Hid (k + gg = L) ∧ t14 = .int .i64 (k : Int) ∧ Hid (RS w b fn regs bl rs0 (.slice va L vc) k X0 wr))
  case atStart => exact ⟨0, _, by unfold Hid; omega, rfl, HRS⟩
  case round =>
    clear HRS
    obtain ⟨k, X0, hk, rfl, hS⟩ := hrel
    by_cases hlt : k < L
    case neg =>
      have hkL : k = L := by have := unhide hk; omega
      subst hkL
      have i1 : ¬ (k : Int) < (k : Int) := by omega
      have c0 := (blk_cells (unhide hS).box).1 0
      have c1 := (blk_cells (unhide hS).box).1 1
      have c2 := (blk_cells (unhide hS).box).1 2
      have cl := (blk_cells (unhide hS).box).2.2
      have r0 := (blk_cells (unhide hS).res).1 0
      have r1 := (blk_cells (unhide hS).res).1 1
      have r2 := (blk_cells (unhide hS).res).1 2
      have rf0 := (blk_cells (unhide hS).res).2.1 0
      have rf1 := (blk_cells (unhide hS).res).2.1 1
      have rf2 := (blk_cells (unhide hS).res).2.1 2
      have rl := (blk_cells (unhide hS).res).2.2
      simp at c0 c1 c2 cl r0 r1 r2 rl
      have HW : Hid (∀ W, Fr (fun q => q = w.heap.size + 1) wr W → AnsC w fn regs (bl.map bkT) (.returned (.agg #[.int .i64 fn, .int .i64 regs, .slice va k vc])) W) := fun W hW => by
        have q := ((unhide hS).ri.ow (by rw [List.length_map, unhide hL]; omega)).imp (fun u x hp => hp.zero)
        exact ⟨_, X0, rfl, (unhide hS).bw.trans (hW.below (unhide hS).bw.size (fun q hq e => by omega)), (OW.frZ (stayB 0) q hW (fun z hz hz2 e => by have hz3 : w.heap.size + 2 ≤ z := hz2; omega)).mono (fun z _ hz => by have hz3 : w.heap.size + 2 ≤ z := hz; show w.heap.size ≤ z; omega)⟩
      go_wp2_with fail
      refine bodyPost_ret (v := .agg #[.int .i64 fn, .int .i64 regs, .slice va k vc]) ?_ rfl ?_
      · rw [results_cell_one rfl]
        go_simp
      · apply unhide HW
        repeat (first | refine Fr.setCell (S := fun q => q = w.heap.size + 1) ?_ _ (.inr rfl) _ | with_reducible exact Fr.refl _ _)
    have i0 : (0 : Int) ≤ (k : Int) := by omega
    have i1 : (k : Int) < (L : Int) := by omega
    obtain ⟨u, hu⟩ : ∃ s, bl[k]? = some s := ⟨_, List.getElem?_eq_getElem (by rw [unhide hL]; exact hlt)⟩
    obtain ⟨r, hr⟩ : ∃ s, rs0[k]? = some s := ⟨_, List.getElem?_eq_getElem (by rw [unhide H1, unhide hL]; exact hlt)⟩
    obtain ⟨p1, p2, p3⟩ := unhide H3 k u r hu hr
    obtain ⟨ia, ic, ei, hi1, hi2⟩ := NV.shape p2
    obtain ⟨na, nc, en, hn1, hn2⟩ := p3.1.shape
    obtain ⟨rpc, riv, rnv⟩ := r
    simp only at p1 p2 p3 ei en
    subst p1 ei en
    have HOU := hide (unhide HO u (List.mem_of_getElem? hu))
    obtain ⟨IL, hIL⟩ : ∃ z, Hid (u.ins.length = z) := ⟨_, hide rfl⟩
    obtain ⟨NL, hNL⟩ : ∃ z, Hid (u.nx.length = z) := ⟨_, hide rfl⟩
    have hlb := (unhide hS).lt
    have HPI : Hid (∀ W, Below w.heap.size w W → InsV (fun q => q ≠ b) W u.ins (.slice ia u.ins.length ic)) := fun W hW => InsV.mv _ _ _ _ _ _ _ p2 (Fr.of_below (S := fun _ => False) hW) (fun q hq _ => ⟨fun e => e, by omega⟩)
    have HPN : Hid (∀ W, Below w.heap.size w W → Rx W 1 (.slice na u.nx.length nc) u.nx.length (flt enI u.nx)) := fun W hW => p3.1.below hW (Nat.le_refl _)
    clear p2 p3
    rw [unhide hIL] at hi1 HPI hr
    rw [unhide hNL] at hn1 HPN hr
    unfold maxLen at hi2 hn2
    obtain ⟨mn, mf, hmp⟩ := (unhide hS).mp
    obtain ⟨cv, wc, hrun, hmc, hgc⟩ := hmp.clear 0
    have HFC : Hid (Fr (fun q => q = b) wr wc) := (Fr.refl _ wr).grown hgc (fun q e => by cases e; exact .inr rfl)
    have HSC := hide ((unhide hS).fr (unhide HFC) ⟨0, f0, hmc⟩)
    have HMC := hide hmc
    have hblk : (bl.map bkT).length = L := by rw [List.length_map]; exact unhide hL
    obtain ⟨x0, hx0⟩ : ∃ s, X0[k]? = some s := ⟨_, List.getElem?_eq_getElem (by rw [(unhide hS).ri.len, hblk]; exact hlt)⟩
    have hx1 : x0.1 = ⟨u.pc, .slice ia IL ic, .slice na NL nc⟩ := by
      have q := (unhide hS).old k (Nat.le_refl _)
      rw [hx0, hr] at q
      simpa using q
    have hrow : Ro wc 3 (.slice va L vc) X0.length (flt enTB X0) := by have q := (unhide HSC).ri.row; rw [(unhide HSC).ri.len]; exact q
    obtain ⟨g, off, cc, eg, _, _, hgl, hgcell⟩ := (Rx.of_ro hrow).elem zTB hx0
    obtain ⟨e5, e6⟩ : va = some ⟨g, off, none⟩ ∧ vc = cc := by cases eg; exact ⟨rfl, rfl⟩
    subst e5
    subst e6
    clear eg
    unfold enTB at hgcell
    rw [hx1] at hgcell
    have HS0 : Hid ((fun W => W.cell? ⟨g, off + k * 3 + 1, none⟩ = some (.slice ia IL ic) ∧ W.cell? ⟨g, off + k * 3 + 2, none⟩ = some (.slice na NL nc)) wc) := by exact ⟨hgcell 1 _ rfl, hgcell 2 _ rfl⟩
    have c2 := (blk_cells (unhide HSC).box).1 2
    have cl := (blk_cells (unhide HSC).box).2.2
    simp at c2 cl
    have HU := hide hu
    have HR := hide hr
    clear hmp hmc hgc hblk hx0 hx1 hrow hgcell hu hr
    go_wp2_with fail
    obtain ⟨Y, hY⟩ : ∃ W, Hid (wc.drew = W) := ⟨_, hide rfl⟩
    have HBY : Hid (Below wc.heap.size wc Y) := by rw [← unhide hY]; exact ⟨rfl, rfl, rfl, Nat.le_refl _, fun _ _ => rfl⟩
    have HSY := hide ((unhide HSC).on (unhide HBY))
    have HMY : Hid (MfW Y b 0 f0) := (unhide HMC).fr (Fr.of_below (S := fun _ => False) (unhide HBY)) (fun q => q)
    have HSS : Hid ((fun W => W.cell? ⟨g, off + k * 3 + 1, none⟩ = some (.slice ia IL ic) ∧ W.cell? ⟨g, off + k * 3 + 2, none⟩ = some (.slice na NL nc)) Y) := by rw [← unhide hY]; exact unhide HS0
    refine wp_region_later (S := (fun W => W.cell? ⟨g, off + k * 3 + 1, none⟩ = some (.slice ia IL ic) ∧ W.cell? ⟨g, off + k * 3 + 2, none⟩ = some (.slice na NL nc))) (m := 15) (by kernel_rfl) ?_
    rw [unhide hY]
    clear hY c2 cl HS0 HMC HSC HFC hrun
    refine wpAnyL_takeU (i := 0) (oi := _) (v := .pointer (some ⟨g, off + k * 3, none⟩)) rfl (by kernel_rfl) (by kernel_rfl) (by kernel_rfl) (by decide) (fun _ _ _ h => h) (Or.inl ⟨by rfl, (by intro w' _; go_simp)⟩) (fun _ => unhide HSS) ?_
    go_simp
    refine wpAnyL_takeU (i := 1) (oi := _) (v := .pointer (some ⟨g, off + k * 3, none⟩)) rfl (by kernel_rfl) (by kernel_rfl) (by kernel_rfl) (by decide) (fun _ _ _ h => h) (Or.inl ⟨by rfl, (by intro w' _; go_simp)⟩) (fun _ => unhide HSS) ?_
    go_simp
    refine wpAnyL_takeU (i := 2) (oi := _) (v := .map (some b)) rfl (by kernel_rfl) (by kernel_rfl) (by kernel_rfl) (by decide) (fun _ _ _ h => h) (Or.inl ⟨by rfl, (by intro w' _; go_simp)⟩) (fun _ => unhide HSS) ?_
    go_simp
    refine wpAnyL_takeU (i := 3) (oi := _) (v := .pointer (some ⟨g, off + k * 3, none⟩)) rfl (by kernel_rfl) (by kernel_rfl) (by kernel_rfl) (by decide) (fun _ _ _ h => h) (Or.inl ⟨by rfl, (by intro w' _; go_simp)⟩) (fun _ => unhide HSS) ?_
    go_simp
    refine wpAnyL_takeU (i := 4) (oi := _) (v := .pointer (some ⟨g, off + k * 3, none⟩)) rfl (by kernel_rfl) (by kernel_rfl) (by kernel_rfl) (by decide) (fun _ _ _ h => h) (Or.inl ⟨by rfl, (by intro w' _; go_simp)⟩) (fun _ => unhide HSS) ?_
    go_simp
    refine wpAnyL_takeU (i := 5) (oi := _) (v := .pointer (some ⟨g, off + k * 3 + 1, none⟩)) rfl (by kernel_rfl) (by kernel_rfl) (by kernel_rfl) (by decide) (fun _ _ _ h => h) (Or.inl ⟨by rfl, (by intro w' _; go_simp)⟩) (fun _ => unhide HSS) ?_
    go_simp
    refine wpAnyL_take (i := 6) (oi := _) (om := _) (v := .slice ia IL ic) rfl rfl (by kernel_rfl) (by kernel_rfl) (by kernel_rfl) (by kernel_rfl) (by decide) (by kernel_rfl) (fun _ _ _ h => h) (Or.inl ⟨by rfl, (by intro w' hSw; obtain ⟨s1, s2⟩ := hSw; go_simp)⟩) (unhide HSS) ?_
    go_simp
    refine wpAnyL_takeU (i := 8) (oi := _) (v := .pointer (some ⟨g, off + k * 3, none⟩)) rfl (by kernel_rfl) (by kernel_rfl) (by kernel_rfl) (by decide) (fun _ _ _ h => h) (Or.inl ⟨by rfl, (by intro w' _; go_simp)⟩) (fun _ => unhide HSS) ?_
    go_simp
    refine wpAnyL_takeU (i := 9) (oi := _) (v := .pointer (some ⟨g, off + k * 3, none⟩)) rfl (by kernel_rfl) (by kernel_rfl) (by kernel_rfl) (by decide) (fun _ _ _ h => h) (Or.inl ⟨by rfl, (by intro w' _; go_simp)⟩) (fun _ => unhide HSS) ?_
    go_simp
    refine wpAnyL_takeU (i := 10) (oi := _) (v := .pointer (some ⟨g, off + k * 3 + 2, none⟩)) rfl (by kernel_rfl) (by kernel_rfl) (by kernel_rfl) (by decide) (fun _ _ _ h => h) (Or.inl ⟨by rfl, (by intro w' _; go_simp)⟩) (fun _ => unhide HSS) ?_
    go_simp
    refine wpAnyL_take (i := 11) (oi := _) (om := _) (v := .slice na NL nc) rfl rfl (by kernel_rfl) (by kernel_rfl) (by kernel_rfl) (by kernel_rfl) (by decide) (by kernel_rfl) (fun _ _ _ h => h) (Or.inl ⟨by rfl, (by intro w' hSw; obtain ⟨s1, s2⟩ := hSw; go_simp)⟩) (unhide HSS) ?_
    go_simp
    have HC7 := hide (turned_any (unhide HPI Y (unhide HSY).bw) (fun _ _ e => e) (unhide HMY) (unhide HOU).1 (unhide HOU).2.1 (unhide HOU).2.2.2)
    refine wpAnyL_one (i := 7) (o := _) (by kernel_rfl) rfl (fun K hK => ?_)
    go_simp
    refine (unhide HC7).mono ?_
    rintro e w3 ⟨lv, ts, rfl, hT⟩
    have HT := hide hT
    have hgb : g ≠ b := fun e => (unhide HSY).nb (by rw [← e]; rfl)
    have hgY : g < Y.heap.size := by have := (unhide HBY).size; omega
    have HS3 : Hid ((fun W => W.cell? ⟨g, off + k * 3 + 1, none⟩ = some (.slice ia IL ic) ∧ W.cell? ⟨g, off + k * 3 + 2, none⟩ = some (.slice na NL nc)) w3) := by exact ⟨(hT.fr.cell (a := ⟨g, off + k * 3 + 1, none⟩) hgY hgb).trans (unhide HSS).1, (hT.fr.cell (a := ⟨g, off + k * 3 + 2, none⟩) hgY hgb).trans (unhide HSS).2⟩
    have HF3 : Hid (Below w.heap.size w w3) := (unhide HSY).bw.trans (hT.fr.below (unhide HSY).bw.size (fun q hq e => by omega))
    obtain ⟨la, lc, elv, -, -⟩ := hT.ow.row.shape
    subst elv
    have hg3 : g < w3.heap.size := by have := hT.fr.size; omega
    clear hT HC7
    refine hK.out _ _ (fun _ => unhide HS3) ?_
    clear hK K
    go_simp
    have HC12 := hide (cloneN_any (w := w3) (v := .slice na NL nc) (l := u.nx) (by rw [unhide hNL]; exact unhide HPN w3 (unhide HF3)) (oneN _) (unhide HOU).2.2.1)
    refine wpAnyL_one (i := 12) (o := _) (by kernel_rfl) rfl (fun K hK => ?_)
    go_simp
    refine (unhide HC12).mono ?_
    rintro e w4 ⟨nv', rfl, hG4⟩
    have HG4 := hide hG4
    obtain ⟨xa, xc, enx, -, -⟩ := hG4.1.shape
    subst enx
    have HS4 : Hid ((fun W => W.cell? ⟨g, off + k * 3 + 1, none⟩ = some (.slice ia IL ic) ∧ W.cell? ⟨g, off + k * 3 + 2, none⟩ = some (.slice na NL nc)) w4) := by exact ⟨(hG4.2.1.cell (p := ⟨g, off + k * 3 + 1, none⟩) hg3).trans (unhide HS3).1, (hG4.2.1.cell (p := ⟨g, off + k * 3 + 2, none⟩) hg3).trans (unhide HS3).2⟩
    have hg4 : g < w4.heap.size := by have := hG4.2.1.size; omega
    obtain ⟨X1, hX1⟩ := (unhide HSY).step (unhide HU) (unhide HR) rfl (unhide HT) hG4 (g := g) (off := off) (cap := vc) (by rw [unhide hL])
    have HX1 := hide hX1
    have HF4 : Hid (∀ z, w4.frozen? ⟨g, z, none⟩ = false) := fun z => by
      have q := ((unhide HSY).fr ((unhide HT).fr.trans (Fr.of_below hG4.2.1)) ⟨_, _, (unhide HT).mp.fr (Fr.of_below (S := fun _ => False) hG4.2.1) (fun q => q)⟩).ri.row
      rw [List.length_map, unhide hL] at q
      exact q.free rfl z
    clear hG4 HC12 hX1
    refine hK.out _ _ (fun _ => unhide HS4) ?_
    clear hK K
    go_simp
    refine wpAnyL_takeU (i := 13) (oi := _) (v := .pointer (some ⟨g, off + k * 3, none⟩)) rfl (by kernel_rfl) (by kernel_rfl) (by kernel_rfl) (by decide) (fun _ _ _ h => h) (Or.inl ⟨by rfl, (by intro w' _; go_simp)⟩) (fun _ => unhide HS4) ?_
    go_simp
    refine wpAnyL_takeU (i := 14) (oi := _) (v := .pointer (some ⟨g, off + k * 3 + 1, none⟩)) rfl (by kernel_rfl) (by kernel_rfl) (by kernel_rfl) (by decide) (fun _ _ _ h => h) (Or.inl ⟨by rfl, (by intro w' _; go_simp)⟩) (fun _ => unhide HS4) ?_
    go_simp
    have s1 := (unhide HS4).1
    have s1f := unhide HF4 (off + k * 3 + 1)
    refine wpAnyL_one (i := 15) (o := _) (by kernel_rfl) rfl (fun K hK => ?_)
    go_simp
    refine hK.out _ _ (fun h => absurd h (by simp)) ?_
    clear hK K
    go_simp
    refine wpAnyL_takeU (i := 16) (oi := _) (v := .pointer (some ⟨g, off + k * 3, none⟩)) rfl (by kernel_rfl) (by kernel_rfl) (by kernel_rfl) (by decide) (fun _ _ _ h => h) (Or.inl ⟨by rfl, (by intro w' _; go_simp)⟩) (fun h => absurd h (by simp)) ?_
    go_simp
    refine wpAnyL_takeU (i := 17) (oi := _) (v := .pointer (some ⟨g, off + k * 3 + 2, none⟩)) rfl (by kernel_rfl) (by kernel_rfl) (by kernel_rfl) (by decide) (fun _ _ _ h => h) (Or.inl ⟨by rfl, (by intro w' _; go_simp)⟩) (fun h => absurd h (by simp)) ?_
    go_simp
    have s2 := (unhide HS4).2
    have s2f := unhide HF4 (off + k * 3 + 2)
    refine wpAnyL_one (i := 18) (o := _) (by kernel_rfl) rfl (fun K hK => ?_)
    go_simp
    refine hK.out _ _ (fun h => absurd h (by simp)) ?_
    clear hK K
    go_simp
    refine wpAnyL_done (by kernel_rfl) ?_ _
    clear s1 s1f s2 s2f
    go_wp2_with fail
    go_roundg (gk - 1)
    case measure => have := unhide hk; omega
    case rel => exact ⟨k + 1, X1, by have := unhide hk; unfold Hid; omega, by go_num, by have q := HX1; rw [List.take_length] at q; exact q⟩
end Go.Proofs.Ytpbdpejhjdoleaa
