/-
  The document's Run.
-/
import Derived.Test.YtpbdpejhjdoleaaDb
namespace Go.Proofs.Ytpbdpejhjdoleaa
open Go.RowKit
set_option linter.unusedVariables false
set_option linter.unusedSimpArgs false
theorem GS.insD {w wr : World} {l : List RIn} {lv : Value} {rs : List InR} (h : GS w l lv rs wr) : InsV (fun k => w.heap.size ≤ k) wr l lv :=
  ⟨rs, h.len, Rd.of_ro h.row h.rb, fun i u r hu hr => InP.mv _ _ _ _ _ _ _ (h.el i u r hu hr) (Fr.refl (fun _ => False) wr) (fun k _ e => ⟨fun q => q, e.1⟩)⟩
/-- While the document's blocks are made. -/
structure DS (w : World) (p : Nat) (fn regs : Int) (l : List Bk) (bv : Value) (rs : List BkR) (wr : World) : Prop where
  bl : Below w.heap.size w wr
  box : wr.heap[p]? = some (.cells #[.int .i64 fn, .int .i64 regs, bv] 24)
  pw : w.heap.size ≤ p
  len : rs.length = l.length
  row : Ro wr 3 bv l.length (flt enBk rs)
  rb : ∀ b, bv.ownBlock = some b → w.heap.size ≤ b ∧ b ≠ p
  el : ∀ (i : Nat) (u : Bk) (r : BkR), l[i]? = some u → rs[i]? = some r → BkP (fun q => w.heap.size ≤ q ∧ bv.ownBlock ≠ some q ∧ q ≠ p) wr u r
section
variable {w wr w' : World} {p : Nat} {fn regs : Int} {l : List Bk} {bv : Value} {rs : List BkR}
theorem DS.lt (h : DS w p fn regs l bv rs wr) : p < wr.heap.size := (blk_cells h.box).2.2
theorem DS.on (h : DS w p fn regs l bv rs wr) (b : Below wr.heap.size wr w') : DS w p fn regs l bv rs w' := by
  have f : Fr (fun _ => False) wr w' := Fr.of_below b
  exact ⟨bl_past h.bl b, (b.block p h.lt).trans h.box, h.pw, h.len, h.row.fr f (fun _ _ e => e), h.rb, fun i x r hx hr => BkP.mv _ _ _ _ _ _ _ (h.el i x r hx hr) f (fun k _ e => ⟨fun q => q, e⟩)⟩
theorem DS.push (h : DS w p fn regs l bv rs wr) {x : Bk} {r : BkR} {w1 w2 : World} {v' : Value} {m : Nat} (hb : Below wr.heap.size wr w1) (hx : BkP (fun k => wr.heap.size ≤ k) w1 x r) (hr : Ro w2 3 v' m (flt enBk rs ++ enBk r)) (hm : m = l.length + 1) (hg : w1.grownBy w2 bv.ownBlock) (hat : v'.ownBlock = bv.ownBlock ∨ v'.ownBlock = some w1.heap.size) :
    DS w p fn regs (l ++ [x]) v' (rs ++ [r]) (w2.setCell ⟨p, 2, none⟩ v') := by
  subst hm
  have h1 := h.on hb
  have hs := h.bl.size
  have hs1 := hb.size
  have hp := h.lt
  have f : Fr (fun k => bv.ownBlock = some k) w1 w2 := (Fr.refl _ w1).grown hg (fun k e => .inr e)
  have f2 : Fr (fun k => k = p) w2 (w2.setCell ⟨p, 2, none⟩ v') := Fr.setCell (S := fun k => k = p) (Fr.refl _ w2) ⟨p, 2, none⟩ (.inr rfl) v'
  have fc : Fr (fun k => bv.ownBlock = some k ∨ k = p) w1 (w2.setCell ⟨p, 2, none⟩ v') := by
    refine ⟨f2.os.trans f.os, f2.tape.trans f.tape, f2.output.trans f.output, Nat.le_trans f.size f2.size, fun k hk hn => ?_⟩
    rw [f2.block k (Nat.lt_of_lt_of_le hk f.size) (fun e => hn (.inr e)), f.block k hk (fun e => hn (.inl e))]
  have hlt : ∀ k, bv.ownBlock = some k → k < wr.heap.size := fun k hk => h.row.lt k hk
  have hvp : ∀ k, v'.ownBlock = some k → w.heap.size ≤ k ∧ k ≠ p := fun k hk => by
    rcases hat with a | a
    · rw [a] at hk; exact h.rb k hk
    · rw [a] at hk; have : w1.heap.size = k := Option.some.inj hk; exact ⟨by omega, by omega⟩
  have hmv : ∀ k, k < w1.heap.size → (w.heap.size ≤ k ∧ bv.ownBlock ≠ some k ∧ k ≠ p) → ¬ (bv.ownBlock = some k ∨ k = p) ∧ (w.heap.size ≤ k ∧ v'.ownBlock ≠ some k ∧ k ≠ p) := fun k hk e => ⟨fun q => q.elim e.2.1 e.2.2, e.1, fun q => by
    rcases hat with a | a
    · rw [a] at q; exact e.2.1 q
    · rw [a] at q; have : w1.heap.size = k := Option.some.inj q; omega, e.2.2⟩
  refine ⟨h1.bl.trans (fc.below h1.bl.size (fun k hk e => e.elim (fun e => by have := (h.rb k e).1; omega) (fun e => by have := h.pw; omega))), ?_, h.pw, by simp [h.len], ?_, hvp, fun i y q hy hq => ?_⟩
  · have e2 : w2.heap[p]? = some (.cells #[.int .i64 fn, .int .i64 regs, bv] 24) := (f.block p (by omega) (fun e => (h.rb p e).2 rfl)).trans h1.box
    rw [setCell_block (g := p) (o := 2) e2 v']
    simp
  · have : Ro w2 3 v' (l ++ [x]).length (flt enBk (rs ++ [r])) := by rw [List.length_append, flt_append]; simpa [flt] using hr
    exact this.fr f2 (fun k hk e => (hvp k hk).2 e)
  · have hll := h.len
    by_cases c : i < l.length
    · rw [List.getElem?_append_left c] at hy
      rw [List.getElem?_append_left (by omega)] at hq
      exact BkP.mv _ _ _ _ _ _ _ (h1.el i y q hy hq) fc hmv
    · rw [List.getElem?_append_right (by omega)] at hy hq
      have hi : i - l.length = 0 := by have := (List.getElem?_eq_some_iff.1 hy).1; simp at this; omega
      rw [hi] at hy
      rw [hll, hi] at hq
      cases hy
      cases hq
      exact BkP.mv _ _ _ _ _ _ _ hx fc (fun k hk e => hmv k hk ⟨by omega, fun q => by have := hlt k q; omega, by omega⟩)
end
set_option maxRecDepth 100000 in
set_option maxHeartbeats 12800000 in
theorem runR_any {w : World} {D : Nat → Prop} {fn regs : Int} {l : List Bk} {v : Value} (h : BksV D w l v) (hN : l.length ≤ 1048576)
    (hM : ∀ u ∈ l, u.ins.length ≤ 1048576 ∧ u.nx.length ≤ 1048576 ∧ ∀ x ∈ u.ins, x.args.length ≤ 1048576 ∧ x.ex.length ≤ 1048576 ∧ ∀ s ∈ x.ex, s.sl.length ≤ 1048576) :
    Calls Try.prog 8 #[.agg #[.int .i64 fn, .int .i64 regs, v]] w fun e w' => ∃ v', e = .returned (.agg #[.int .i64 fn, .int .i64 regs, v']) ∧ Below w.heap.size w w' ∧ BksV (fun q => w.heap.size ≤ q) w' (l.map bkT) v' := by
  obtain ⟨a, c, rfl, ha1, ha2⟩ := NV.shape h
  have HI := hide h
  have HM := hide hM
  clear h hM
  obtain ⟨L, hL⟩ : ∃ L, Hid (l.length = L) := ⟨_, hide rfl⟩
  rw [unhide hL] at HI hN ha1 ⊢
  unfold maxLen at ha2
  have HB2 := hide (BX.two w #[.int .i64 fn, .int .i64 regs, .slice a L c] #[.int .i64 0, .int .i64 0, .slice none 0 0] 24 24)
  obtain ⟨W2, eW2⟩ : ∃ W, (w.alloc (.cells #[.int .i64 fn, .int .i64 regs, .slice a L c] 24)).alloc (.cells #[.int .i64 0, .int .i64 0, .slice none 0 0] 24) = W := ⟨_, rfl⟩
  have hs2 : w.heap.size + 1 + 1 = W2.heap.size := by rw [← eW2]; simp
  rw [eW2] at HB2
  have HS2 := hide hs2
  have HD0 : Hid (DS W2 W2.heap.size fn regs [] (.slice none 0 0) [] (W2.alloc (.cells #[.int .i64 fn, .int .i64 regs, .slice none 0 0] 24))) := ⟨box1n _ _, heap_alloc_new _ _, Nat.le_refl _, rfl, by simpa [flt] using Ro.nil (W2.alloc (.cells #[.int .i64 fn, .int .i64 regs, .slice none 0 0] 24)) 3, by simp [Value.ownBlock], fun i x r h => by simp at h⟩
  have c0 := (unhide HB2).ce 0 rfl 0
  have c1 := (unhide HB2).ce 0 rfl 1
  have c2 := (unhide HB2).ce 0 rfl 2
  have cl := (unhide HB2).lt (i := 0) rfl
  simp at c0 c1 c2 cl
  go_enter Try.func8, Try.ntmps8
  go_wp2_with fail
  clear c0 c1 c2 cl
  go_loopg [4] L (fun gg t4 wr => ∃ (k : Nat) (dv : Value) (rs : List BkR), Hid (k + gg = L) ∧ t4 = .int .i64 (k : Int) ∧ Hid (DS W2 W2.heap.size fn regs ((l.take k).map bkT) dv rs wr))
  case atStart => exact ⟨0, _, [], by unfold Hid; omega, rfl, HD0⟩
  case round =>
    clear HD0
    obtain ⟨k, dv, rs, hk, rfl, hS⟩ := hrel
    have HB3 := hide ((unhide HB2).go (unhide hS).bl)
    have c0 := (unhide HB3).ce 0 rfl 0
    have c1 := (unhide HB3).ce 0 rfl 1
    have c2 := (unhide HB3).ce 0 rfl 2
    have cl := (unhide HB3).lt (i := 0) rfl
    have d0 := (unhide HB3).ce 1 rfl 0
    have d1 := (unhide HB3).ce 1 rfl 1
    have d2 := (unhide HB3).ce 1 rfl 2
    have dl := (unhide HB3).lt (i := 1) rfl
    have df0 := (blk_cells ((unhide HB3).h 1 _ rfl)).2.1 0
    have df1 := (blk_cells ((unhide HB3).h 1 _ rfl)).2.1 1
    have df2 := (blk_cells ((unhide HB3).h 1 _ rfl)).2.1 2
    simp at c0 c1 c2 cl d0 d1 d2 dl df0 df1 df2
    obtain ⟨bc, bf, pl⟩ := blk_cells (unhide hS).box
    have p0 := bc 0
    have p1 := bc 1
    have p2 := bc 2
    have pf2 := bf 2
    simp at p0 p1 p2
    clear bc bf
    obtain ⟨da, dc, edv, hd1, hd2⟩ := (unhide hS).row.shape
    have hlk : ((l.take k).map bkT).length = k := by rw [List.length_map, List.length_take, unhide hL]; have := unhide hk; omega
    rw [hlk] at edv hd1
    subst edv
    by_cases hlt : k < L
    case neg =>
      have hkL : L = k := by have := unhide hk; omega
      subst hkL
      have i1 : ¬ (L : Int) < (L : Int) := by omega
      have HP : Hid (∀ W, Fr (fun q => q = w.heap.size + 1) wr W → ∃ v', Ending.returned (.agg #[.int .i64 fn, .int .i64 regs, .slice da L dc]) = .returned (.agg #[.int .i64 fn, .int .i64 regs, v']) ∧ Below w.heap.size w W ∧ BksV (fun q => w.heap.size ≤ q) W (l.map bkT) v') := fun W hW => by
        have hT : (l.take L).map bkT = l.map bkT := by rw [List.take_of_length_le (by rw [unhide hL]; exact Nat.le_refl _)]
        have hs := unhide hS
        rw [hT] at hs
        have hww := (unhide HB2).b.size
        have hz := unhide HS2
        refine ⟨_, rfl, (unhide HB3).b.trans (hW.below (unhide HB3).b.size (fun q hq e => by omega)), ?_⟩
        exact NV.mv BkP.mv _ _ _ _ _ _ _ (show BksV (fun q => W2.heap.size ≤ q) wr (l.map bkT) (.slice da L dc) from ⟨rs, hs.len, Rd.of_ro hs.row (fun b hb => (hs.rb b hb).1), fun i u r hu hr => BkP.mv _ _ _ _ _ _ _ (hs.el i u r hu hr) (Fr.refl (fun _ => False) wr) (fun q _ e => ⟨fun z => z, e.1⟩)⟩) hW (fun q _ e => ⟨fun z => by omega, by omega⟩)
      go_wp2_with fail
      refine bodyPost_ret (v := .agg #[.int .i64 fn, .int .i64 regs, .slice da L dc]) ?_ rfl ?_
      · rw [results_cell_one rfl]
        go_simp
      · refine unhide HP _ ?_
        repeat (first | with_reducible exact Fr.refl _ _ | refine Fr.setCell (S := fun q => q = w.heap.size + 1) ?_ _ (.inr rfl) _)
    obtain ⟨u, hu⟩ : ∃ s, l[k]? = some s := ⟨_, List.getElem?_eq_getElem (by rw [unhide hL]; exact hlt)⟩
    obtain ⟨lb, lo, _, r, e1, hlb, _, hf, rc⟩ := NV.at zBk (show NV enBk 3 BkP D w l (.slice a L c) from unhide HI) hu
    rw [unhide hL] at e1
    cases e1
    have hUM := unhide HM u (List.mem_of_getElem? hu)
    obtain ⟨rpc, riv, rnv⟩ := r
    obtain ⟨h1, h2, h3⟩ := hf
    simp only at h1 h2 h3
    obtain ⟨ia, ic, ei, hi1, hi2⟩ := NV.shape h2
    obtain ⟨na, nc, en, hn1, hn2⟩ := h3.1.shape
    subst h1 ei en
    have HCB : Hid (∀ W, Below w.heap.size w W → Calls Try.prog 22 #[.slice ia u.ins.length ic] W fun e w' => ∃ lv rs, e = .returned lv ∧ GS W (trn u.ins).2 lv rs w') := fun W hW => blockR_any (InsV.mv.bel h2 hW) hUM.1 hUM.2.2
    have HCN : Hid (∀ W, Below w.heap.size w W → Calls Try.prog 21 #[.slice na u.nx.length nc] W fun e w' => ∃ v, e = .returned v ∧ Gx W 1 enI u.nx v w') := fun W hW => copyInts_any (NxV.mv.bel h3 hW) (by have := hUM.2.1; omega)
    obtain ⟨IL, hIL⟩ : ∃ z, Hid (u.ins.length = z) := ⟨_, hide rfl⟩
    obtain ⟨NL, hNL⟩ : ∃ z, Hid (u.nx.length = z) := ⟨_, hide rfl⟩
    rw [unhide hIL] at HCB hi1 rc
    rw [unhide hNL] at HCN hn1 rc
    unfold maxLen at hi2 hn2 hd2
    have HL3 : Hid (∀ W, Below w.heap.size w W → W.cell? ⟨lb, lo + k * 3, none⟩ = some (.int .i64 u.pc) ∧ W.cell? ⟨lb, lo + k * 3 + 1, none⟩ = some (.slice ia IL ic) ∧ W.cell? ⟨lb, lo + k * 3 + 2, none⟩ = some (.slice na NL nc) ∧ lb < W.heap.size) := fun W hW => ⟨(hW.cell (p := ⟨lb, lo + k * 3 + 0, none⟩) hlb).trans (rc 0 _ rfl), (hW.cell (p := ⟨lb, lo + k * 3 + 1, none⟩) hlb).trans (rc 1 _ rfl), (hW.cell (p := ⟨lb, lo + k * 3 + 2, none⟩) hlb).trans (rc 2 _ rfl), Nat.lt_of_lt_of_le hlb hW.size⟩
    have HTK : Hid ((l.take (k + 1)).map bkT = (l.take k).map bkT ++ [bkT u]) := by unfold Hid; rw [take_push hu, List.map_append]; rfl
    have i0 : (0 : Int) ≤ (k : Int) := by omega
    have i1 : (k : Int) < (L : Int) := by omega
    have hpw := (unhide hS).pw
    have HLK := hide hlk
    clear h2 h3 hu rc hUM hlk
    go_wp2_with fail
    clear c0 c1 c2 cl d0 d1 d2 dl df0 df1 df2 p0 p1 p2 pf2
    obtain ⟨Z, hZ⟩ : ∃ W, Hid (wr.drew = W) := ⟨_, hide rfl⟩
    have HZB : Hid (Below wr.heap.size wr Z) := by rw [← unhide hZ]; exact bl_drew wr
    have HCW : Hid (∀ W, Below wr.heap.size wr W → W.cell? ⟨w.heap.size, 2, none⟩ = some (.slice (some ⟨lb, lo, none⟩) L c) ∧ w.heap.size < W.heap.size ∧ W.cell? ⟨lb, lo + k * 3, none⟩ = some (.int .i64 u.pc) ∧ W.cell? ⟨lb, lo + k * 3 + 1, none⟩ = some (.slice ia IL ic) ∧ W.cell? ⟨lb, lo + k * 3 + 2, none⟩ = some (.slice na NL nc) ∧ lb < W.heap.size) := fun W hb => by
      have hx := (unhide HB3).go hb
      have c2 := hx.ce 0 rfl 2
      have cl := hx.lt (i := 0) rfl
      simp at c2 cl
      obtain ⟨q1, q2, q3, q4⟩ := unhide HL3 W hx.b
      exact ⟨c2, cl, q1, q2, q3, q4⟩
    have HCE : Hid (∀ W, Below Z.heap.size Z W → W.cell? ⟨w.heap.size, 2, none⟩ = some (.slice (some ⟨lb, lo, none⟩) L c) ∧ w.heap.size < W.heap.size ∧ W.cell? ⟨lb, lo + k * 3, none⟩ = some (.int .i64 u.pc) ∧ W.cell? ⟨lb, lo + k * 3 + 1, none⟩ = some (.slice ia IL ic) ∧ W.cell? ⟨lb, lo + k * 3 + 2, none⟩ = some (.slice na NL nc) ∧ lb < W.heap.size) := fun W hW => unhide HCW W (bl_past (unhide HZB) hW)
    have HS0 : Hid (Below Z.heap.size Z Z) := Below.refl _ _
    refine wp_region_held_drew (S := fun W => Below Z.heap.size Z W) (by kernel_rfl) (by rw [unhide hZ]; exact Below.refl _ _) (fun hHeld => ?_)
    clear hHeld
    rw [unhide hZ]
    clear hZ
    refine wpAnyH_take (i := 0) (oi := _) (v := .pointer (some ⟨w.heap.size, 2, none⟩)) rfl (by kernel_rfl) (by kernel_rfl) (by kernel_rfl) (fun _ _ _ h => h) (Or.inl ⟨by rfl, (by intro w2 hSw; obtain ⟨s0, s1, s2, s3, s4, s5⟩ := unhide HCE w2 hSw; go_simp)⟩) (unhide HS0) ?_
    go_simp
    refine wpAnyH_take (i := 1) (oi := _) (v := .slice (some ⟨lb, lo, none⟩) L c) rfl (by kernel_rfl) (by kernel_rfl) (by kernel_rfl) (fun _ _ _ h => h) (Or.inl ⟨by rfl, (by intro w2 hSw; obtain ⟨s0, s1, s2, s3, s4, s5⟩ := unhide HCE w2 hSw; go_simp)⟩) (unhide HS0) ?_
    go_simp
    refine wpAnyH_take (i := 2) (oi := _) (v := .int .i64 (k : Int)) rfl (by kernel_rfl) (by kernel_rfl) (by kernel_rfl) (fun _ _ _ h => h) (Or.inl ⟨by rfl, (by intro w2 hSw; obtain ⟨s0, s1, s2, s3, s4, s5⟩ := unhide HCE w2 hSw; go_simp)⟩) (unhide HS0) ?_
    go_simp
    refine wpAnyH_take (i := 3) (oi := _) (v := .pointer (some ⟨lb, lo + k * 3, none⟩)) rfl (by kernel_rfl) (by kernel_rfl) (by kernel_rfl) (fun _ _ _ h => h) (Or.inl ⟨by rfl, (by intro w2 hSw; obtain ⟨s0, s1, s2, s3, s4, s5⟩ := unhide HCE w2 hSw; go_simp)⟩) (unhide HS0) ?_
    go_simp
    refine wpAnyH_take (i := 4) (oi := _) (v := .pointer (some ⟨lb, lo + k * 3, none⟩)) rfl (by kernel_rfl) (by kernel_rfl) (by kernel_rfl) (fun _ _ _ h => h) (Or.inl ⟨by rfl, (by intro w2 hSw; obtain ⟨s0, s1, s2, s3, s4, s5⟩ := unhide HCE w2 hSw; go_simp)⟩) (unhide HS0) ?_
    go_simp
    refine wpAnyH_take (i := 5) (oi := _) (v := .int .i64 u.pc) rfl (by kernel_rfl) (by kernel_rfl) (by kernel_rfl) (fun _ _ _ h => h) (Or.inl ⟨by rfl, (by intro w2 hSw; obtain ⟨s0, s1, s2, s3, s4, s5⟩ := unhide HCE w2 hSw; go_simp)⟩) (unhide HS0) ?_
    go_simp
    refine wpAnyH_take (i := 6) (oi := _) (v := .pointer (some ⟨w.heap.size, 2, none⟩)) rfl (by kernel_rfl) (by kernel_rfl) (by kernel_rfl) (fun _ _ _ h => h) (Or.inl ⟨by rfl, (by intro w2 hSw; obtain ⟨s0, s1, s2, s3, s4, s5⟩ := unhide HCE w2 hSw; go_simp)⟩) (unhide HS0) ?_
    go_simp
    refine wpAnyH_take (i := 7) (oi := _) (v := .slice (some ⟨lb, lo, none⟩) L c) rfl (by kernel_rfl) (by kernel_rfl) (by kernel_rfl) (fun _ _ _ h => h) (Or.inl ⟨by rfl, (by intro w2 hSw; obtain ⟨s0, s1, s2, s3, s4, s5⟩ := unhide HCE w2 hSw; go_simp)⟩) (unhide HS0) ?_
    go_simp
    refine wpAnyH_take (i := 8) (oi := _) (v := .int .i64 (k : Int)) rfl (by kernel_rfl) (by kernel_rfl) (by kernel_rfl) (fun _ _ _ h => h) (Or.inl ⟨by rfl, (by intro w2 hSw; obtain ⟨s0, s1, s2, s3, s4, s5⟩ := unhide HCE w2 hSw; go_simp)⟩) (unhide HS0) ?_
    go_simp
    refine wpAnyH_take (i := 9) (oi := _) (v := .pointer (some ⟨lb, lo + k * 3, none⟩)) rfl (by kernel_rfl) (by kernel_rfl) (by kernel_rfl) (fun _ _ _ h => h) (Or.inl ⟨by rfl, (by intro w2 hSw; obtain ⟨s0, s1, s2, s3, s4, s5⟩ := unhide HCE w2 hSw; go_simp)⟩) (unhide HS0) ?_
    go_simp
    refine wpAnyH_take (i := 10) (oi := _) (v := .pointer (some ⟨lb, lo + k * 3 + 2, none⟩)) rfl (by kernel_rfl) (by kernel_rfl) (by kernel_rfl) (fun _ _ _ h => h) (Or.inl ⟨by rfl, (by intro w2 hSw; obtain ⟨s0, s1, s2, s3, s4, s5⟩ := unhide HCE w2 hSw; go_simp)⟩) (unhide HS0) ?_
    go_simp
    refine wpAnyH_take (i := 11) (oi := _) (v := .slice na NL nc) rfl (by kernel_rfl) (by kernel_rfl) (by kernel_rfl) (fun _ _ _ h => h) (Or.inl ⟨by rfl, (by intro w2 hSw; obtain ⟨s0, s1, s2, s3, s4, s5⟩ := unhide HCE w2 hSw; go_simp)⟩) (unhide HS0) ?_
    go_simp
    refine wpAnyH_ready (rs := [12, 14]) (by kernel_rfl) (by simp) ?_
    refine AllReadyH.cons (o := _) rfl (fun K hK => ?_) (AllReadyH.cons (o := _) rfl (fun K hK => ?_) AllReadyH.nil)
    · go_simp
      refine (unhide HCN Z (bl_past (unhide HB3).b (unhide HZB))).mono ?_
      rintro e w5 ⟨nv, rfl, hn⟩
      obtain ⟨n5, c5, en5, hn51, hn52⟩ := hn.1.shape
      rw [unhide hNL] at en5 hn51
      subst en5
      have HS5 := hide hn.2.1
      have HN5 := hide hn
      clear hn
      refine hK.out _ _ (unhide HS5) (fun _ => ?_)
      clear hK K
      go_simp
      refine wpAnyH_take (i := 13) (oi := _) (v := .agg #[.int .i64 u.pc, .slice none 0 0, .slice n5 NL c5]) rfl (by kernel_rfl) (by kernel_rfl) (by kernel_rfl) (fun _ _ _ h => h) (Or.inl ⟨by rfl, (by intro w2 hSw; obtain ⟨s0, s1, s2, s3, s4, s5⟩ := unhide HCE w2 hSw; go_simp)⟩) (unhide HS5) ?_
      go_simp
      refine wpAnyH_ready (rs := [14]) (by kernel_rfl) (by simp) ?_
      refine AllReadyH.cons (o := _) rfl (fun K hK => ?_) AllReadyH.nil
      go_simp
      refine hK.out _ _ (bl_past (unhide HS5) (box1n _ _)) (fun _ => ?_)
      clear hK K
      go_simp
      refine wpAnyH_ready (rs := [15]) (by kernel_rfl) (by simp) ?_
      refine AllReadyH.cons (o := _) rfl (fun K hK => ?_) AllReadyH.nil
      go_simp
      refine hK.out _ _ (bl_past (unhide HS5) (box1n _ _)) (fun _ => ?_)
      clear hK K
      go_simp
      refine wpAnyH_done (by kernel_rfl) ?_ _
      have hZs := (unhide HZB).size
      have h5s := (unhide HS5).size
      obtain ⟨B, hB⟩ : ∃ z, Hid (w5.heap.size = z) := ⟨_, hide rfl⟩
      have HBX6 : Hid ((w5.alloc (.cells #[.int .i64 u.pc, .slice none 0 0, .slice n5 NL c5] 43)).heap[B]? = some (.cells #[.int .i64 u.pc, .slice none 0 0, .slice n5 NL c5] 43)) := by rw [← unhide hB]; exact heap_alloc_new w5 _
      have HB6 : Hid (Below wr.heap.size wr (w5.alloc (.cells #[.int .i64 u.pc, .slice none 0 0, .slice n5 NL c5] 43))) := bl_past (bl_past (unhide HZB) (unhide HS5)) (box1n _ _)
      have HN6 : Hid (Ro (w5.alloc (.cells #[.int .i64 u.pc, .slice none 0 0, .slice n5 NL c5] 43)) 1 (.slice n5 NL c5) u.nx.length (flt enI u.nx) ∧ ∀ b, (Value.slice n5 NL c5).ownBlock = some b → wr.heap.size ≤ b ∧ b ≠ B) := ⟨(unhide HN5).1.fr (Fr.of_below (S := fun _ => False) (box1n _ _)) (fun _ _ e => e), fun b hb => ⟨by have := (unhide HN5).2.2 b hb; omega, by have := (unhide HN5).1.lt b hb; have := unhide hB; omega⟩⟩
      have hBw : wr.heap.size ≤ B := by have := unhide hB; omega
      obtain ⟨W6, hW6⟩ : ∃ W, Hid (w5.alloc (.cells #[.int .i64 u.pc, .slice none 0 0, .slice n5 NL c5] 43) = W) := ⟨_, hide rfl⟩
      rw [unhide hW6] at HBX6 HB6 HN6
      rw [unhide hW6, unhide hB]
      clear hW6 hB HS5 HN5 HCE HS0
      obtain ⟨c2, cl, q1, q2, q3, q4⟩ := unhide HCW W6 (unhide HB6)
      have HCA := hide (unhide HCB W6 (bl_past (unhide HB3).b (unhide HB6)))
      go_wp2_with fail
      refine (unhide HCA).mono ?_
      rintro e w7 ⟨iv, irs, rfl, hi⟩
      clear c2 cl q1 q2 q3 q4 HCA
      obtain ⟨i7, ci7, ei7, hi71, hi72⟩ := hi.row.shape
      obtain ⟨IO, hIO⟩ : ∃ z, Hid ((trn u.ins).2.length = z) := ⟨_, hide rfl⟩
      rw [unhide hIO] at ei7 hi71
      subst ei7
      unfold maxLen at hi72
      have hBl := (blk_cells (unhide HBX6)).2.2
      have HBX7 := hide ((hi.bl.block B hBl).trans (unhide HBX6))
      obtain ⟨bc, bf, bl7⟩ := blk_cells (unhide HBX7)
      have b1 := bc 1
      have bf1 := bf 1
      simp at b1
      clear bc bf
      have F8 := Fr.setCell (S := fun q => q = B) (Fr.refl _ w7) ⟨B, 1, none⟩ (.inr rfl) (.slice i7 IO ci7)
      have HBX8 := setCell_block (g := B) (o := 1) (unhide HBX7) (.slice i7 IO ci7)
      simp at HBX8
      obtain ⟨W8, eW8⟩ : ∃ W, w7.setCell ⟨B, 1, none⟩ (.slice i7 IO ci7) = W := ⟨_, rfl⟩
      rw [eW8] at F8 HBX8
      have HB8 : Hid (Below wr.heap.size wr W8) := (bl_past (unhide HB6) hi.bl).trans (F8.below (bl_past (unhide HB6) hi.bl).size (fun b hb e => by have e' : b = B := e; omega))
      have h6s := (unhide HB6).size
      have HBK : Hid (BkP (fun q => wr.heap.size ≤ q) W8 (bkT u) ⟨u.pc, .slice i7 IO ci7, .slice n5 NL c5⟩) := by
        refine hide ⟨rfl, InsV.mv _ _ _ _ _ _ _ hi.insD F8 (fun b hb e => ?_), Rd.of_ro (((unhide HN6).1.fr (Fr.of_below (S := fun _ => False) hi.bl) (fun _ _ e => e)).fr F8 (fun b hb e => ((unhide HN6).2 b hb).2 e)) (fun b hb => ((unhide HN6).2 b hb).1)⟩
        have e' : W6.heap.size ≤ b := e
        exact ⟨fun q => by have q' : b = B := q; omega, by omega⟩
      have HD8 := hide ((unhide hS).on (unhide HB8))
      obtain ⟨zc, zf, zl⟩ := blk_cells (unhide HD8).box
      have z2 := zc 2
      simp at z2
      clear zc zf
      obtain ⟨yc, yf, yl⟩ := blk_cells HBX8
      have y0 := yc 0
      have y1 := yc 1
      have y2 := yc 2
      simp at y0 y1 y2
      clear yc yf hi HBX8 F8
      have HRW : Hid (Ro (W8.alloc (.cells #[.int .i64 u.pc, .slice i7 IO ci7, .slice n5 NL c5] 43)) 3 (.slice da k dc) rs.length (flt enBk rs)) := by
        have := ((unhide HD8).on (box1n W8 (.cells #[.int .i64 u.pc, .slice i7 IO ci7, .slice n5 NL c5] 43))).row
        rw [(unhide hS).len]
        exact this
      have HLR : Hid (rs.length ≤ 1048576) := by rw [(unhide hS).len, unhide HLK]; unfold Hid; omega
      have HPX := hide (fun (X : Obj) => ((unhide HD8).on (box1n W8 X)).box)
      have HPL := hide (fun (X : Obj) => ((unhide HD8).on (box1n W8 X)).lt)
      go_wp2_with (first | (at_builtin; refine appBk rfl _ _ rfl _ rs rfl (unhide HRW) ⟨W8.heap.size, 0, none⟩ 1 ⟨u.pc, .slice i7 IO ci7, .slice n5 NL c5⟩ rfl (new_cells _ _ _) rfl rfl (by have := unhide HLR; omega) ?_))
      intro v' w' hr hg hat
      obtain ⟨v9, c9, ev9, hv91, hv92⟩ := hr.shape
      subst ev9
      have hp9 := (((Fr.refl (fun q => (Value.slice da k dc).ownBlock = some q) _).grown hg (fun k e => .inr e)).block _ (unhide HPL _) (fun e => ((unhide hS).rb _ e).2 rfl)).trans (unhide HPX _)
      obtain ⟨zc, zf, zl9⟩ := blk_cells hp9
      have z29 := zc 2
      have zf29 := zf 2
      simp at z29
      have HG9 := hide ((unhide hS).push (bl_past (unhide HB8) (box1n W8 _)) (BkP.mv.bel (unhide HBK) (box1n W8 _)) hr (by rw [(unhide hS).len]) hg (by simpa using hat))
      clear hr hg hat hp9 zc zf y0 y1 y2 z2 eW8
      go_wp2_with fail
      go_roundg (gk - 1)
      case measure => have := unhide hk; omega
      case rel => exact ⟨k + 1, _, _, by have := unhide hk; unfold Hid; omega, by go_num, hide (by rw [unhide HTK]; exact unhide HG9)⟩
    · go_simp
      refine hK.out _ _ (box1n _ _) (fun _ => ?_)
      clear hK K
      go_simp
      refine wpAnyH_ready (rs := [12]) (by kernel_rfl) (by simp) ?_
      refine AllReadyH.cons (o := _) rfl (fun K hK => ?_) AllReadyH.nil
      go_simp
      obtain ⟨B, hB⟩ : ∃ z, Hid (Z.heap.size = z) := ⟨_, hide rfl⟩
      have HZX := hide (heap_alloc_new Z (.cells #[.int .i64 0, .slice none 0 0, .slice none 0 0] 43))
      have HZ1 := hide (box1n Z (.cells #[.int .i64 0, .slice none 0 0, .slice none 0 0] 43))
      refine (unhide HCN _ (bl_past (bl_past (unhide HB3).b (unhide HZB)) (unhide HZ1))).mono ?_
      rintro e w5 ⟨nv, rfl, hn⟩
      obtain ⟨n5, c5, en5, hn51, hn52⟩ := hn.1.shape
      rw [unhide hNL] at en5 hn51
      subst en5
      have HS5 := hide (bl_past (unhide HZ1) hn.2.1)
      have HN5 := hide hn
      have HX5 := hide ((hn.2.1.block Z.heap.size (by simp)).trans (unhide HZX))
      clear hn
      refine hK.out _ _ (unhide HS5) (fun _ => ?_)
      clear hK K
      go_simp
      refine wpAnyH_take (i := 13) (oi := _) (v := .agg #[.int .i64 u.pc, .slice none 0 0, .slice n5 NL c5]) rfl (by kernel_rfl) (by kernel_rfl) (by kernel_rfl) (fun _ _ _ h => h) (Or.inl ⟨by rfl, (by intro w2 hSw; obtain ⟨s0, s1, s2, s3, s4, s5⟩ := unhide HCE w2 hSw; go_simp)⟩) (unhide HS5) ?_
      go_simp
      obtain ⟨x1, x2, x3⟩ := blk_cells (unhide HX5)
      have x10 := x1 0
      have x11 := x1 1
      have x12 := x1 2
      have x20 := x2 0
      have x21 := x2 1
      have x22 := x2 2
      simp at x10 x11 x12
      have hZs := (unhide HZB).size
      refine wpAnyH_ready (rs := [15]) (by kernel_rfl) (by simp) ?_
      refine AllReadyH.cons (o := _) rfl (fun K hK => ?_) AllReadyH.nil
      go_simp
      refine hK.out _ _ (by
        have hbz : Z.heap.size ≤ Z.heap.size := Nat.le_refl _
        repeat (first | with_reducible exact unhide HS5 | refine Below.setCell ?_ (by first | exact hbz | (simp; done) | (simp; omega)) _)) (fun _ => ?_)
      clear hK K
      go_simp
      refine wpAnyH_done (by kernel_rfl) ?_ _
      have k1 := setCell_block (g := Z.heap.size) (o := 0) (unhide HX5) (.int .i64 u.pc)
      have k2 := setCell_block (g := Z.heap.size) (o := 1) k1 (.slice none 0 0)
      have k3 := setCell_block (g := Z.heap.size) (o := 2) k2 (.slice n5 NL c5)
      simp at k3
      obtain ⟨W6, hW6⟩ : ∃ W, Hid ((((w5.setCell ⟨Z.heap.size, 0, none⟩ (.int .i64 u.pc)).setCell ⟨Z.heap.size, 1, none⟩ (.slice none 0 0)).setCell ⟨Z.heap.size, 2, none⟩ (.slice n5 NL c5)) = W) := ⟨_, hide rfl⟩
      have F6 : Fr (fun q => q = Z.heap.size) w5 W6 := by
        rw [← unhide hW6]
        exact Fr.setCell (S := fun q => q = Z.heap.size) (Fr.setCell (S := fun q => q = Z.heap.size) (Fr.setCell (S := fun q => q = Z.heap.size) (Fr.refl _ w5) ⟨Z.heap.size, 0, none⟩ (.inr rfl) _) ⟨Z.heap.size, 1, none⟩ (.inr rfl) _) ⟨Z.heap.size, 2, none⟩ (.inr rfl) _
      rw [unhide hW6] at k3
      have HBX6 : Hid (W6.heap[B]? = some (.cells #[.int .i64 u.pc, .slice none 0 0, .slice n5 NL c5] 43)) := by rw [← unhide hB]; exact k3
      have HB6 : Hid (Below wr.heap.size wr W6) := (bl_past (unhide HZB) (unhide HS5)).trans (F6.below (bl_past (unhide HZB) (unhide HS5)).size (fun b hb e => by omega))
      have HN6 : Hid (Ro W6 1 (.slice n5 NL c5) u.nx.length (flt enI u.nx) ∧ ∀ b, (Value.slice n5 NL c5).ownBlock = some b → wr.heap.size ≤ b ∧ b ≠ B) := ⟨(unhide HN5).1.fr F6 (fun b hb e => by have := (unhide HN5).2.2 b hb; simp at this; have e' : b = Z.heap.size := e; omega), fun b hb => by have := (unhide HN5).2.2 b hb; simp at this; have := unhide hB; exact ⟨by omega, by omega⟩⟩
      have hBw : wr.heap.size ≤ B := by have := unhide hB; omega
      rw [unhide hW6, unhide hB]
      clear hW6 hB HS5 HN5 HCE HS0 HX5 HZX HZ1 k1 k2 k3 F6 x1 x2 x3 x10 x11 x12 x20 x21 x22
      obtain ⟨c2, cl, q1, q2, q3, q4⟩ := unhide HCW W6 (unhide HB6)
      have HCA := hide (unhide HCB W6 (bl_past (unhide HB3).b (unhide HB6)))
      go_wp2_with fail
      refine (unhide HCA).mono ?_
      rintro e w7 ⟨iv, irs, rfl, hi⟩
      clear c2 cl q1 q2 q3 q4 HCA
      obtain ⟨i7, ci7, ei7, hi71, hi72⟩ := hi.row.shape
      obtain ⟨IO, hIO⟩ : ∃ z, Hid ((trn u.ins).2.length = z) := ⟨_, hide rfl⟩
      rw [unhide hIO] at ei7 hi71
      subst ei7
      unfold maxLen at hi72
      have hBl := (blk_cells (unhide HBX6)).2.2
      have HBX7 := hide ((hi.bl.block B hBl).trans (unhide HBX6))
      obtain ⟨bc, bf, bl7⟩ := blk_cells (unhide HBX7)
      have b1 := bc 1
      have bf1 := bf 1
      simp at b1
      clear bc bf
      have F8 := Fr.setCell (S := fun q => q = B) (Fr.refl _ w7) ⟨B, 1, none⟩ (.inr rfl) (.slice i7 IO ci7)
      have HBX8 := setCell_block (g := B) (o := 1) (unhide HBX7) (.slice i7 IO ci7)
      simp at HBX8
      obtain ⟨W8, eW8⟩ : ∃ W, w7.setCell ⟨B, 1, none⟩ (.slice i7 IO ci7) = W := ⟨_, rfl⟩
      rw [eW8] at F8 HBX8
      have HB8 : Hid (Below wr.heap.size wr W8) := (bl_past (unhide HB6) hi.bl).trans (F8.below (bl_past (unhide HB6) hi.bl).size (fun b hb e => by have e' : b = B := e; omega))
      have h6s := (unhide HB6).size
      have HBK : Hid (BkP (fun q => wr.heap.size ≤ q) W8 (bkT u) ⟨u.pc, .slice i7 IO ci7, .slice n5 NL c5⟩) := by
        refine hide ⟨rfl, InsV.mv _ _ _ _ _ _ _ hi.insD F8 (fun b hb e => ?_), Rd.of_ro (((unhide HN6).1.fr (Fr.of_below (S := fun _ => False) hi.bl) (fun _ _ e => e)).fr F8 (fun b hb e => ((unhide HN6).2 b hb).2 e)) (fun b hb => ((unhide HN6).2 b hb).1)⟩
        have e' : W6.heap.size ≤ b := e
        exact ⟨fun q => by have q' : b = B := q; omega, by omega⟩
      have HD8 := hide ((unhide hS).on (unhide HB8))
      obtain ⟨zc, zf, zl⟩ := blk_cells (unhide HD8).box
      have z2 := zc 2
      simp at z2
      clear zc zf
      obtain ⟨yc, yf, yl⟩ := blk_cells HBX8
      have y0 := yc 0
      have y1 := yc 1
      have y2 := yc 2
      simp at y0 y1 y2
      clear yc yf hi HBX8 F8
      have HRW : Hid (Ro (W8.alloc (.cells #[.int .i64 u.pc, .slice i7 IO ci7, .slice n5 NL c5] 43)) 3 (.slice da k dc) rs.length (flt enBk rs)) := by
        have := ((unhide HD8).on (box1n W8 (.cells #[.int .i64 u.pc, .slice i7 IO ci7, .slice n5 NL c5] 43))).row
        rw [(unhide hS).len]
        exact this
      have HLR : Hid (rs.length ≤ 1048576) := by rw [(unhide hS).len, unhide HLK]; unfold Hid; omega
      have HPX := hide (fun (X : Obj) => ((unhide HD8).on (box1n W8 X)).box)
      have HPL := hide (fun (X : Obj) => ((unhide HD8).on (box1n W8 X)).lt)
      go_wp2_with (first | (at_builtin; refine appBk rfl _ _ rfl _ rs rfl (unhide HRW) ⟨W8.heap.size, 0, none⟩ 1 ⟨u.pc, .slice i7 IO ci7, .slice n5 NL c5⟩ rfl (new_cells _ _ _) rfl rfl (by have := unhide HLR; omega) ?_))
      intro v' w' hr hg hat
      obtain ⟨v9, c9, ev9, hv91, hv92⟩ := hr.shape
      subst ev9
      have hp9 := (((Fr.refl (fun q => (Value.slice da k dc).ownBlock = some q) _).grown hg (fun k e => .inr e)).block _ (unhide HPL _) (fun e => ((unhide hS).rb _ e).2 rfl)).trans (unhide HPX _)
      obtain ⟨zc, zf, zl9⟩ := blk_cells hp9
      have z29 := zc 2
      have zf29 := zf 2
      simp at z29
      have HG9 := hide ((unhide hS).push (bl_past (unhide HB8) (box1n W8 _)) (BkP.mv.bel (unhide HBK) (box1n W8 _)) hr (by rw [(unhide hS).len]) hg (by simpa using hat))
      clear hr hg hat hp9 zc zf y0 y1 y2 z2 eW8
      go_wp2_with fail
      go_roundg (gk - 1)
      case measure => have := unhide hk; omega
      case rel => exact ⟨k + 1, _, _, by have := unhide hk; unfold Hid; omega, by go_num, hide (by rw [unhide HTK]; exact unhide HG9)⟩
end Go.Proofs.Ytpbdpejhjdoleaa
