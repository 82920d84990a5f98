/-
  goOn.
-/
import Derived.Test.YtlogmdldjmkkjaaGreatDoorVEff
import Derived.Test.YtlogmdldjmkkjaaGreatDoorVNx
namespace Go.Proofs.YtlogmdldjmkkjaaGreatDoor
open Go.RowKit
set_option linter.unusedVariables false
set_option linter.unusedSimpArgs false
/-- What stays as it is all the while. -/
structure Bs (w0 : World) (Z wb fb hb : Nat) (x : Fv) (f : Fc) : Prop where
  wz : w0.heap.size ≤ wb ∧ wb < Z
  fz : w0.heap.size ≤ fb ∧ fb < Z
  hz : w0.heap.size ≤ hb ∧ hb < Z
  wf : wb ≠ fb
  wh : wb ≠ hb
  fh : fb ≠ hb
  co : FnV w0 f x
  n1 : 1 ≤ f.code.length
  nm : f.code.length ≤ 1048576
  hm : f.hs.length ≤ 1048576
  hk : ∀ h ∈ f.hs, OkHv h
/-- The struct's cells. -/
def wkC (x : Fv) (fb hb N : Nat) (iv : Value) (wr : Int) : List Value :=
  [.string x.name, .int .i64 x.params, .int .i64 x.locals, x.cv, x.hv, .slice (some ⟨fb, 0, none⟩) N N, iv, .slice (some ⟨hb, 0, none⟩) N N, .int .i64 wr]
/-- The state. -/
structure St (w0 : World) (Z wb fb hb : Nat) (x : Fv) (f : Fc) (fl : List Int) (iv lv : Value) (idle : List Hd) (hts : List Int) (wr : Int) (met left : List Spot) (X : World) : Prop where
  wk : Ro X 9 (.slice (some ⟨wb, 0, none⟩) 1 1) 1 (wkC x fb hb f.code.length iv wr)
  fo : Ro X 1 (.slice (some ⟨fb, 0, none⟩) f.code.length f.code.length) f.code.length (flt enN fl)
  ho : Ro X 1 (.slice (some ⟨hb, 0, none⟩) f.code.length f.code.length) f.code.length (flt enN hts)
  io : Ro X 4 iv idle.length (flt enH idle)
  ml : ML X Z met left lv
  iz : ∀ k, iv.ownBlock = some k → w0.heap.size ≤ k ∧ k < Z ∧ k ≠ wb ∧ k ≠ fb ∧ k ≠ hb
  bl : Below w0.heap.size w0 X
  is : ∀ h ∈ idle, h ∈ f.hs
  il : idle.length ≤ f.hs.length
/-- What a step of the walk may turn. -/
def stS (Z : Nat) (lv : Value) (k : Nat) : Prop := k < Z ∨ mtS Z lv k
theorem ML.ge {X : World} {Z : Nat} {met left : List Spot} {lv : Value} (h : ML X Z met left lv) {k : Nat} (e : mtS Z lv k) : Z ≤ k := by
  rcases e with e | e | e
  · omega
  · omega
  · have := h.own k e; omega
theorem ML.lt {X : World} {Z : Nat} {met left : List Spot} {lv : Value} (h : ML X Z met left lv) {k : Nat} (e : mtS Z lv k) : k < X.heap.size := by
  have := h.bl.lt
  rcases e with e | e | e
  · omega
  · omega
  · exact h.lf.lt k e
section
variable {w0 X Y : World} {Z wb fb hb : Nat} {x : Fv} {f : Fc} {fl : List Int} {iv lv : Value} {idle : List Hd} {hts : List Int} {wr : Int} {met left : List Spot}
/-- Nothing of it is turned. -/
theorem St.keep {S : Nat → Prop} (h : St w0 Z wb fb hb x f fl iv lv idle hts wr met left X) (g : Bs w0 Z wb fb hb x f) (fr : Fr S X Y) (hS : ∀ k, k < X.heap.size → ¬ S k) : St w0 Z wb fb hb x f fl iv lv idle hts wr met left Y := by
  have own : ∀ {v : Value} {sz n xs}, Ro X sz v n xs → Ro Y sz v n xs := fun r => r.fr fr (fun k hk => hS k (r.lt k hk))
  have hz := h.ml.bl.lt
  exact ⟨own h.wk, own h.fo, own h.ho, own h.io, h.ml.keep fr (hS _ (by omega)) (hS _ (by omega)) (hS _ (by omega)) (fun k hk => hS k (h.ml.lf.lt k hk)), h.iz, h.bl.trans (fr.below (by have := h.bl.size; omega) (fun k hk => hS k (by have := h.bl.size; omega))), h.is, h.il⟩
/-- A cell of the struct. -/
theorem St.cell (h : St w0 Z wb fb hb x f fl iv lv idle hts wr met left X) {j : Nat} {v : Value} (hv : (wkC x fb hb f.code.length iv wr)[j]? = some v) : X.cell? ⟨wb, j, none⟩ = some v := by
  obtain ⟨b', off', c', e, _, _, hb, hc⟩ := h.wk.full (by omega)
  cases e
  have hj := (List.getElem?_eq_some_iff.1 hv).1
  have := hc j (by simp [wkC] at hj; omega)
  rw [Nat.zero_add] at this
  rw [this, hv]
theorem St.free (h : St w0 Z wb fb hb x f fl iv lv idle hts wr met left X) (j : Nat) : X.frozen? ⟨wb, j, none⟩ = false := h.wk.free rfl j
theorem St.wlt (h : St w0 Z wb fb hb x f fl iv lv idle hts wr met left X) : wb < X.heap.size := World.block_lt_of_cell? _ _ (h.cell (j := 0) rfl)
/-- meet was called. -/
theorem St.mets {met2 left2 : List Spot} {lv2 : Value} (h : St w0 Z wb fb hb x f fl iv lv idle hts wr met left X) (g : Bs w0 Z wb fb hb x f) (hM : ML Y Z met2 left2 lv2) (fr : Fr (mtS Z lv) X Y) : St w0 Z wb fb hb x f fl iv lv2 idle hts wr met2 left2 Y := by
  have no : ∀ k, k < Z → ¬ mtS Z lv k := fun k hk e => by have := h.ml.ge e; omega
  have hz := h.ml.bl.lt
  have g1 := g.wz; have g2 := g.fz; have g3 := g.hz
  refine ⟨h.wk.fr fr (fun k hk => no k ?_), h.fo.fr fr (fun k hk => no k ?_), h.ho.fr fr (fun k hk => no k ?_), h.io.fr fr (fun k hk => no k (h.iz k hk).2.1), hM, h.iz, h.bl.trans (fr.below h.bl.size (fun k hk => no k (by omega))), h.is, h.il⟩
  all_goals
    simp [Value.ownBlock] at hk
    omega
/-- A cell of the struct is written. -/
theorem St.put {iv2 : Value} {wr2 : Int} {j : Nat} {v : Value} (h : Ro X 9 (.slice (some ⟨wb, 0, none⟩) 1 1) 1 (wkC x fb hb f.code.length iv wr)) (he : (wkC x fb hb f.code.length iv wr).set j v = wkC x fb hb f.code.length iv2 wr2) (hj : j < 9) :
    Ro (X.setCell ⟨wb, j, none⟩ v) 9 (.slice (some ⟨wb, 0, none⟩) 1 1) 1 (wkC x fb hb f.code.length iv2 wr2) := by
  refine (h.sets rfl (o := 0 + j) (m := 1) (vs := [v]) (ys := wkC x fb hb f.code.length iv2 wr2) (by omega) (by simp; omega) (by omega) rfl (fun i hi => ?_) (fun i hi q => by omega)).1 |> fun r => by simpa [World.setCells] using r
  rw [← he]
  by_cases q : i = j
  · subst q
    rw [if_pos (by simp), List.getElem?_set_self (by simp [wkC]; omega)]
    simp
  · rw [if_neg (by simp; omega), List.getElem?_set_ne (by omega)]
end

set_option linter.unusedVariables false
set_option linter.unusedSimpArgs false
section
variable {w0 X Y : World} {Z wb fb hb : Nat} {x : Fv} {f : Fc} {fl : List Int} {iv lv : Value} {idle : List Hd} {hts : List Int} {wr : Int} {met left : List Spot}
theorem Fr.cellset {S : Nat → Prop} {w w' : World} (h : Fr S w w') (b j : Nat) (v : Value) (hb : S b) : Fr S w (w'.setCell ⟨b, j, none⟩ v) := h.setCell ⟨b, j, none⟩ (.inr hb) v
/-- DeleteFunc was called. -/
theorem St.del {pb qb : Nat} {pc : Int} {iv2 lv2 : Value} {X3 : World} (h : St w0 Z wb fb hb x f fl iv lv idle hts wr met left X) (g : Bs w0 Z wb fb hb x f) (D : DlR X Z pb qb pc idle (met, left) lv iv iv2 lv2 X3) :
    St w0 Z wb fb hb x f fl iv2 lv2 (idl pc idle) hts wr (wkF pc idle (met, left)).1 (wkF pc idle (met, left)).2 (X3.setCell ⟨wb, 6, none⟩ iv2) ∧ Fr (stS Z lv) X (X3.setCell ⟨wb, 6, none⟩ iv2) ∧ nwL X lv lv2 := by
  have no : ∀ k, k < Z → ¬ mtS Z lv k := fun k hk e => by have := h.ml.ge e; omega
  have hz := h.ml.bl.lt
  have hz3 := D.ml.bl.lt
  have g1 := g.wz; have g2 := g.fz; have g3 := g.hz; have g4 := g.wf; have g5 := g.wh; have g6 := g.fh
  have hS : ∀ k, k < Z → iv.ownBlock ≠ some k → ¬ (mtS Z lv k ∨ iv.ownBlock = some k) := fun k hk hi e => e.elim (no k hk) hi
  have ni : ∀ k, k = wb ∨ k = fb ∨ k = hb → iv.ownBlock ≠ some k := fun k hk e => by have := h.iz k e; omega
  have wk1 : Ro X3 9 (.slice (some ⟨wb, 0, none⟩) 1 1) 1 (wkC x fb hb f.code.length iv wr) := h.wk.fr D.fr (fun k hk => by
    simp [Value.ownBlock] at hk; exact hS k (by omega) (ni k (by omega)))
  have fo1 := h.fo.fr D.fr (fun k hk => by simp [Value.ownBlock] at hk; exact hS k (by omega) (ni k (by omega)))
  have ho1 := h.ho.fr D.fr (fun k hk => by simp [Value.ownBlock] at hk; exact hS k (by omega) (ni k (by omega)))
  have fs : Fr (fun k => k = wb) X3 (X3.setCell ⟨wb, 6, none⟩ iv2) := (Fr.refl _ X3).cellset wb 6 iv2 rfl
  refine ⟨⟨St.put wk1 rfl (by omega), fo1.fr fs (fun k hk => by simp [Value.ownBlock] at hk; omega), ho1.fr fs (fun k hk => by simp [Value.ownBlock] at hk; omega), D.ro.fr fs (fun k hk => ?_), ?_, fun k hk => h.iz k (by rw [← D.io]; exact hk), ?_, fun y hy => h.is y ((List.mem_filter.1 hy).1), Nat.le_trans (List.length_filter_le _ _) h.il⟩, ?_, D.nw⟩
  · have := h.iz k (by rw [← D.io]; exact hk)
    omega
  · refine D.ml.keep fs (by omega) (by omega) (by omega) (fun k hk => ?_)
    have := D.ml.own k hk
    omega
  · refine (h.bl.trans (D.fr.below h.bl.size (fun k hk => hS k (by omega) (fun e => ?_)))).trans (fs.below ?_ (fun k hk => by omega))
    · have := (h.iz k e).1; omega
    · have := D.fr.size; have := h.bl.size; omega
  · refine (D.fr.mono (T := stS Z lv) (fun k hk e => ?_)).cellset wb 6 iv2 (.inl g1.2)
    exact e.elim .inr (fun e => .inl (h.iz k e).2.1)
end
set_option maxRecDepth 100000 in
set_option maxHeartbeats 3200000 in
theorem wake_any {w0 X : World} {Z wb fb hb : Nat} {x : Fv} {f : Fc} {fl : List Int} {iv lv : Value} {idle : List Hd} {hts : List Int} {wr : Int} {met left : List Spot} (pc : Int) (g : Bs w0 Z wb fb hb x f) (h : St w0 Z wb fb hb x f fl iv lv idle hts wr met left X) (hl : left.length < 100000000) (hm : met.length < 100000000) :
    Calls Tryz.prog 150 #[.pointer (some ⟨wb, 0, none⟩), .int .i64 pc, fM Z] X fun e X' => (∃ v, e = .returned v) ∧ ∃ iv' lv', St w0 Z wb fb hb x f fl iv' lv' (idl pc idle) hts wr (wkF pc idle (met, left)).1 (wkF pc idle (met, left)).2 X' ∧ Fr (stS Z lv) X X' ∧ nwL X lv lv' := by
  obtain ⟨X1, eX1⟩ : ∃ W1, W1 = (X.alloc (.cells #[.int .i64 pc] 3)).alloc (.cells #[fM Z] 245) := ⟨_, rfl⟩
  have f1 : Fr (fun _ => False) X X1 := by rw [eX1]; exact ((Fr.refl _ X).alloc _).alloc _
  have h1 := h.keep g f1 (fun _ _ e => e)
  have bp : Bxv X1 X.heap.size (.int .i64 pc) := by rw [eX1]; exact (Bxv.new X _ 3).keep ((Fr.refl (fun _ => False) _).alloc _) (fun e => e)
  have bq : Bxv X1 (X.heap.size + 1) (fM Z) := by rw [eX1]; exact Bxv.new' _ _ _ (by simp)
  have hm1 : ∀ k, X.heap.size ≤ k → ¬ (mtS Z lv k ∨ iv.ownBlock = some k) := fun k hk e => e.elim (fun e => by have := h.ml.lt e; omega) (fun e => by have := h.io.lt k e; omega)
  have HC := hide (delFunc_any pc h1.ml bp bq h1.io (fun y hy => g.hk y (h1.is y hy)) (hm1 _ (by omega)) (hm1 _ (by omega)) (fun k hk e => by have := h.ml.ge e; have := (h.iz k hk).2.1; omega) (fun k hk => by have := (h.iz k hk).2.1; omega) (by have := h.il; have := g.hm; omega) (by have := h.il; have := g.hm; omega))
  have HG := hide g
  have H1 := hide h1
  have HF := hide f1
  have c6 := h.cell (j := 6) rfl
  have lw := h.wlt
  have hsz : X1.heap.size = X.heap.size + 2 := by rw [eX1]; simp
  have HX := hide eX1
  clear hm1 h h1 g f1 bp bq
  go_enter Tryz.func150, Tryz.ntmps150
  go_wp2_with fail
  rw [← eX1]
  refine (unhide HC).mono ?_
  rintro e X3 ⟨iv2, rfl, lv2, D⟩
  have HD := hide ((unhide H1).del (unhide HG) D)
  have w3 : X3.cell? ⟨wb, 6, none⟩ = some iv ∧ X3.frozen? ⟨wb, 6, none⟩ = false := by
    have hn : ¬ (mtS Z lv wb ∨ iv.ownBlock = some wb) := fun e => e.elim (fun e => by have := (unhide H1).ml.ge e; have := (unhide HG).wz; omega) (fun e => ((unhide H1).iz wb e).2.2.1 rfl)
    exact ⟨(D.fr.cell (a := ⟨wb, 6, none⟩) (by show wb < X1.heap.size; omega) hn).trans ((unhide H1).cell rfl), (D.fr.frozen (a := ⟨wb, 6, none⟩) (by show wb < X1.heap.size; omega) hn).trans ((unhide H1).free 6)⟩
  obtain ⟨c, z⟩ := w3
  have l3 : wb < X3.heap.size := World.block_lt_of_cell? _ _ c
  obtain ⟨ia, ic, ev, _, _⟩ := D.ro.shape
  generalize (idl pc idle).length = L at ev
  subst ev
  clear D HC c6 eX1 lw
  go_wp2_with fail
  go_end0
  refine ⟨⟨_, rfl⟩, _, _, (unhide HD).1, ?_, ?_⟩
  · exact ⟨(unhide HD).2.1.os.trans (unhide HF).os, (unhide HD).2.1.tape.trans (unhide HF).tape, (unhide HD).2.1.output.trans (unhide HF).output, Nat.le_trans (unhide HF).size (unhide HD).2.1.size, fun k hk hn => ((unhide HD).2.1.block k (by omega) hn).trans ((unhide HF).block k hk (fun e => e))⟩
  · exact (unhide HD).2.2.imp id (fun q k hk => by have := q k hk; omega)

set_option linter.unusedVariables false
set_option linter.unusedSimpArgs false
/-- The state within goOn. -/
structure GS (w0 : World) (Z wb fb hb : Nat) (x : Fv) (f : Fc) (fl : List Int) (X0 : World) (lv0 : Value) (sb ib : Nat) (pc ht op a : Int) (iv lv : Value) (idle : List Hd) (hts : List Int) (wr : Int) (met left : List Spot) (W : World) : Prop where
  st : St w0 Z wb fb hb x f fl iv lv idle hts wr met left W
  s0 : W.cell? ⟨sb, 0, none⟩ = some (.int .i64 pc)
  s1 : W.cell? ⟨sb, 1, none⟩ = some (.int .i64 ht)
  i0 : W.cell? ⟨ib, 0, none⟩ = some (.int .i64 op)
  i1 : W.cell? ⟨ib, 1, none⟩ = some (.int .i64 a)
  fr : Fr (stS Z lv0) X0 W
  nw : nwL X0 lv0 lv
  ns : ¬ mtS Z lv sb
  ni : ¬ mtS Z lv ib
  zs : Z ≤ sb
  zi : Z ≤ ib
section
variable {w0 X0 W Y : World} {Z wb fb hb sb ib : Nat} {x : Fv} {f : Fc} {fl : List Int} {iv lv lv0 : Value} {idle : List Hd} {hts : List Int} {wr pc ht op a : Int} {met left : List Spot}
theorem GS.keep {T : Nat → Prop} (h : GS w0 Z wb fb hb x f fl X0 lv0 sb ib pc ht op a iv lv idle hts wr met left W) (g : Bs w0 Z wb fb hb x f) (fr : Fr T W Y) (hT : ∀ k, k < W.heap.size → ¬ T k) : GS w0 Z wb fb hb x f fl X0 lv0 sb ib pc ht op a iv lv idle hts wr met left Y :=
  have ls := World.block_lt_of_cell? _ _ h.s0
  have li := World.block_lt_of_cell? _ _ h.i0
  ⟨h.st.keep g fr hT, (fr.cell (a := ⟨sb, 0, none⟩) ls (hT _ ls)).trans h.s0, (fr.cell (a := ⟨sb, 1, none⟩) ls (hT _ ls)).trans h.s1, (fr.cell (a := ⟨ib, 0, none⟩) li (hT _ li)).trans h.i0, (fr.cell (a := ⟨ib, 1, none⟩) li (hT _ li)).trans h.i1,
    h.fr.step fr (fun k hk e => absurd e (hT k (Nat.lt_of_lt_of_le hk h.fr.size))), h.nw, h.ns, h.ni, h.zs, h.zi⟩
theorem GS.meet {met2 left2 : List Spot} {lv2 : Value} (h : GS w0 Z wb fb hb x f fl X0 lv0 sb ib pc ht op a iv lv idle hts wr met left W) (g : Bs w0 Z wb fb hb x f) (hM : ML Y Z met2 left2 lv2) (fr : Fr (mtS Z lv) W Y) (hn : nwL W lv lv2) : GS w0 Z wb fb hb x f fl X0 lv0 sb ib pc ht op a iv lv2 idle hts wr met2 left2 Y :=
  have ls := World.block_lt_of_cell? _ _ h.s0
  have li := World.block_lt_of_cell? _ _ h.i0
  ⟨h.st.mets g hM fr, (fr.cell (a := ⟨sb, 0, none⟩) ls h.ns).trans h.s0, (fr.cell (a := ⟨sb, 1, none⟩) ls h.ns).trans h.s1, (fr.cell (a := ⟨ib, 0, none⟩) li h.ni).trans h.i0, (fr.cell (a := ⟨ib, 1, none⟩) li h.ni).trans h.i1,
    h.fr.step fr (fun k hk e => .inr (h.nw.mtS k hk e)), h.nw.trans hn h.fr.size, fun e => h.ns (hn.mtS _ ls e), fun e => h.ni (hn.mtS _ li e), h.zs, h.zi⟩
theorem GS.put (h : GS w0 Z wb fb hb x f fl X0 lv0 sb ib pc ht op a iv lv idle hts wr met left W) (g : Bs w0 Z wb fb hb x f) (v : Int) : GS w0 Z wb fb hb x f fl X0 lv0 sb ib pc ht op a iv lv idle hts v met left (W.setCell ⟨wb, 8, none⟩ (.int .i64 v)) := by
  have ls := World.block_lt_of_cell? _ _ h.s0
  have li := World.block_lt_of_cell? _ _ h.i0
  have g1 := g.wz; have g2 := g.fz; have g3 := g.hz; have g4 := g.wf; have g5 := g.wh
  have zs := h.zs; have zi := h.zi
  have hz := h.st.ml.bl.lt
  have fs : Fr (fun k => k = wb) W (W.setCell ⟨wb, 8, none⟩ (.int .i64 v)) := (Fr.refl _ W).cellset wb 8 _ rfl
  refine ⟨⟨St.put h.st.wk rfl (by omega), h.st.fo.fr fs (fun k hk => by simp [Value.ownBlock] at hk; omega), h.st.ho.fr fs (fun k hk => by simp [Value.ownBlock] at hk; omega), h.st.io.fr fs (fun k hk => (h.st.iz k hk).2.2.1), h.st.ml.keep fs (by omega) (by omega) (by omega) (fun k hk => ?_), h.st.iz, h.st.bl.trans (fs.below h.st.bl.size (fun k hk => by omega)), h.st.is, h.st.il⟩,
    (fs.cell (a := ⟨sb, 0, none⟩) ls (by show ¬ sb = wb; omega)).trans h.s0, (fs.cell (a := ⟨sb, 1, none⟩) ls (by show ¬ sb = wb; omega)).trans h.s1, (fs.cell (a := ⟨ib, 0, none⟩) li (by show ¬ ib = wb; omega)).trans h.i0, (fs.cell (a := ⟨ib, 1, none⟩) li (by show ¬ ib = wb; omega)).trans h.i1,
    h.fr.cellset wb 8 _ (.inl g1.2), h.nw, h.ns, h.ni, h.zs, h.zi⟩
  have := h.st.ml.own k hk
  omega
/-- A height, and a floor. -/
theorem St.hcell (h : St w0 Z wb fb hb x f fl iv lv idle hts wr met left W) {p : Nat} {v : Int} (hv : hts[p]? = some v) : W.cell? ⟨hb, p, none⟩ = some (.int .i64 v) := by
  have hl := h.ho.1
  rw [flt_map, List.length_map] at hl
  have h1 := h.ho
  have : Rn W (.slice (some ⟨hb, 0, none⟩) f.code.length f.code.length) hts := Rx.of_ro (by rw [hl, Nat.mul_one]; exact h1)
  obtain ⟨_, _, _, e, _, k⟩ := this.at hv
  rw [hl, Nat.mul_one] at e
  cases e
  rw [Nat.zero_add] at k
  exact k
theorem St.fcell (h : St w0 Z wb fb hb x f fl iv lv idle hts wr met left W) {p : Nat} {v : Int} (hv : fl[p]? = some v) : W.cell? ⟨fb, p, none⟩ = some (.int .i64 v) := by
  have hl := h.fo.1
  rw [flt_map, List.length_map] at hl
  have h1 := h.fo
  have : Rn W (.slice (some ⟨fb, 0, none⟩) f.code.length f.code.length) fl := Rx.of_ro (by rw [hl, Nat.mul_one]; exact h1)
  obtain ⟨_, _, _, e, _, k⟩ := this.at hv
  rw [hl, Nat.mul_one] at e
  cases e
  rw [Nat.zero_add] at k
  exact k
end
set_option maxRecDepth 100000 in
set_option maxHeartbeats 6400000 in
theorem goOn_any {w0 X : World} {Z wb fb hb : Nat} {x : Fv} {f : Fc} {fl : List Int} {iv lv : Value} {idle : List Hd} {hts : List Int} {wr : Int} {met left : List Spot} {p : Nat} {op a hv fv ht : Int} (g : Bs w0 Z wb fb hb x f) (h : St w0 Z wb fb hb x f fl iv lv idle hts wr met left X) (hl : left.length < 100000000) (hm : met.length < 100000000)
    (hi : f.code[p]? = some (op, a)) (hok : okB op a = true) (hja : jmB op = true → 0 ≤ a ∧ a < 9000000000) (hh : hts[p]? = some hv) (hf : fl[p]? = some fv) (h0 : 0 ≤ ht) (h1 : ht ≤ 1000) :
    Calls Tryz.prog 151 #[.pointer (some ⟨wb, 0, none⟩), .agg #[.int .i64 (p : Int), .int .i64 ht], fM Z] X fun e X' => (∃ v, e = .returned v) ∧ ∃ lv', St w0 Z wb fb hb x f fl iv lv' idle hts (nwr wr p ht hv fv op a) ((nx f.code.length op a p ht).foldl mts (met, left)).1 ((nx f.code.length op a p ht).foldl mts (met, left)).2 X' ∧ Fr (stS Z lv) X X' ∧ nwL X lv lv' := by
  have hp : p < f.code.length := (List.getElem?_eq_some_iff.1 hi).1
  obtain ⟨X1, eX1⟩ : ∃ W1, W1 = X.alloc (.cells #[.int .i64 (p : Int), .int .i64 ht] 242) := ⟨_, rfl⟩
  have f1 : Fr (fun _ => False) X X1 := by rw [eX1]; exact (Fr.refl _ X).alloc _
  have h1' := h.keep g f1 (fun _ _ e => e)
  obtain ⟨cb, co, cc, ev, _, _, lc, hc⟩ := Rx.elem zI g.co.2.2.2.1 hi
  have hbl := h1'.bl
  have k0 := (hbl.cell (p := ⟨cb, co + p * 2 + 0, none⟩) lc).trans (hc 0 _ rfl)
  have k1 := (hbl.cell (p := ⟨cb, co + p * 2 + 1, none⟩) lc).trans (hc 1 _ rfl)
  rw [Nat.add_zero] at k0
  have lc := Nat.lt_of_lt_of_le lc hbl.size
  have c3 := h1'.cell (j := 3) rfl
  rw [ev] at c3
  obtain ⟨N, hN⟩ : ∃ N, Hid (f.code.length = N) := ⟨_, rfl⟩
  have hpN : p < N := by rw [← unhide hN]; exact hp
  have hNm : N ≤ 1048576 := by rw [← unhide hN]; exact g.nm
  rw [unhide hN] at c3
  have lw := h1'.wlt
  have nb := fun j z (hz : #[Value.int .i64 (p : Int), .int .i64 ht].toList[j]? = some z) => new_cells X #[.int .i64 (p : Int), .int .i64 ht] 242 j z hz
  have s0 : X1.cell? ⟨X.heap.size, 0, none⟩ = some (.int .i64 (p : Int)) := by have := nb 0 _ rfl; rw [Go.WideShapes.add_plain] at this; rw [eX1]; exact this
  have s1 : X1.cell? ⟨X.heap.size, 1, none⟩ = some (.int .i64 ht) := by have := nb 1 _ rfl; rw [Go.WideShapes.add_plain] at this; rw [eX1]; exact this
  have ls : X.heap.size < X1.heap.size := World.block_lt_of_cell? _ _ s0
  have p0 : (0 : Int) ≤ (p : Int) := by omega
  have p1 : (p : Int) < (N : Int) := by omega
  have HS := hide h1'
  have HG := hide g
  have HF1 := hide f1
  have HH := hide hh
  have HFl := hide hf
  have HML := hide h.ml
  clear hc hbl nb h1' h g f1 hi hh hf
  have hSa : Fr (fun _ => False) X1 (X1.drew.alloc (.cells #[.int .i64 0, .int .i64 0] 92)) := ((Fr.refl _ X1).drew).alloc _
  have hSb : Fr (fun _ => False) X1 (X1.drew.alloc (.cells #[.int .i64 op, .int .i64 a] 92)) := ((Fr.refl _ X1).drew).alloc _
  go_enter Tryz.func151, Tryz.ntmps151
  go_wp2_with fail
  rw [← eX1]
  clear eX1
  refine wp_region_held_drew (S := (fun wx => Fr (fun _ => False) X1 wx)) (by kernel_rfl) ((Fr.refl _ X1).drew) (fun hHeld => ?_)
  refine wpAnyH_take (i := 0) (oi := _) (v := .pointer (some ⟨wb, 0, none⟩)) rfl (by kernel_rfl) (by kernel_rfl) (by kernel_rfl) (fun _ _ _ h => h) (Or.inl ⟨by rfl, (by intro w hSw; go_simp)⟩) (by assumption) ?_
  go_simp
  refine wpAnyH_take (i := 1) (oi := _) (v := .pointer (some ⟨wb, 0, none⟩)) rfl (by kernel_rfl) (by kernel_rfl) (by kernel_rfl) (fun _ _ _ h => h) (Or.inl ⟨by rfl, (by intro w hSw; go_simp)⟩) (by assumption) ?_
  go_simp
  refine wpAnyH_take (i := 2) (oi := _) (v := .pointer (some ⟨wb, 0, none⟩)) rfl (by kernel_rfl) (by kernel_rfl) (by kernel_rfl) (fun _ _ _ h => h) (Or.inl ⟨by rfl, (by intro w hSw; go_simp)⟩) (by assumption) ?_
  go_simp
  refine wpAnyH_take (i := 3) (oi := _) (v := .pointer (some ⟨wb, 3, none⟩)) rfl (by kernel_rfl) (by kernel_rfl) (by kernel_rfl) (fun _ _ _ h => h) (Or.inl ⟨by rfl, (by intro w hSw; go_simp)⟩) (by assumption) ?_
  go_simp
  refine wpAnyH_take (i := 4) (oi := _) (v := .slice (some ⟨cb, co, none⟩) N cc) rfl (by kernel_rfl) (by kernel_rfl) (by kernel_rfl) (fun _ _ _ h => h) (Or.inl ⟨by rfl, (by intro w hSw; have q0 := (hSw.cell (a := ⟨wb, 3, none⟩) lw (fun e => e)).trans c3; go_simp)⟩) (by assumption) ?_
  go_simp
  refine wpAnyH_take (i := 5) (oi := _) (v := .pointer (some ⟨X.heap.size, 0, none⟩)) rfl (by kernel_rfl) (by kernel_rfl) (by kernel_rfl) (fun _ _ _ h => h) (Or.inl ⟨by rfl, (by intro w hSw; go_simp)⟩) (by assumption) ?_
  go_simp
  refine wpAnyH_take (i := 6) (oi := _) (v := .int .i64 (p : Int)) rfl (by kernel_rfl) (by kernel_rfl) (by kernel_rfl) (fun _ _ _ h => h) (Or.inl ⟨by rfl, (by intro w hSw; have q0 := (hSw.cell (a := ⟨X.heap.size, 0, none⟩) ls (fun e => e)).trans s0; go_simp)⟩) (by assumption) ?_
  go_simp
  refine wpAnyH_take (i := 7) (oi := _) (v := .pointer (some ⟨cb, co + p * 2, none⟩)) rfl (by kernel_rfl) (by kernel_rfl) (by kernel_rfl) (fun _ _ _ h => h) (Or.inl ⟨by rfl, (by intro w hSw; go_simp)⟩) (by assumption) ?_
  go_simp
  refine wpAnyH_take (i := 8) (oi := _) (v := .agg #[.int .i64 op, .int .i64 a]) rfl (by kernel_rfl) (by kernel_rfl) (by kernel_rfl) (fun _ _ _ h => h) (Or.inl ⟨by rfl, (by intro w hSw; have q0 := (hSw.cell (a := ⟨cb, co + p * 2, none⟩) lc (fun e => e)).trans k0; have q1 := (hSw.cell (a := ⟨cb, co + p * 2 + 1, none⟩) lc (fun e => e)).trans k1; have lc2 := Nat.lt_of_lt_of_le lc hSw.size; go_simp)⟩) (by assumption) ?_
  go_simp
  refine wpAnyH_ready (rs := [9]) (by kernel_rfl) (by simp) ?_
  refine AllReadyH.cons (o := _) rfl (fun K hK => ?_) AllReadyH.nil
  go_simp
  refine hK.out _ _ (hSa) (fun hHeld9x => ?_)
  clear hK K
  go_simp
  refine wpAnyH_ready (rs := [10]) (by kernel_rfl) (by simp) ?_
  refine AllReadyH.cons (o := _) rfl (fun K hK => ?_) AllReadyH.nil
  go_simp
  refine hK.out _ _ (hSb) (fun hHeld10x => ?_)
  clear hK K
  go_simp
  refine wpAnyH_done (by kernel_rfl) ?_ _
  have hG2 : GS w0 Z wb fb hb x f fl X lv X.heap.size X1.heap.size (p : Int) ht op a iv lv idle hts wr met left (X1.alloc (.cells #[.int .i64 op, .int .i64 a] 92)).drew := by
    have fA : Fr (fun _ => False) X1 (X1.alloc (.cells #[.int .i64 op, .int .i64 a] 92)).drew := ((Fr.refl _ X1).alloc _).drew
    have nb := fun j z (hz : #[Value.int .i64 op, .int .i64 a].toList[j]? = some z) => new_cells X1 #[.int .i64 op, .int .i64 a] 92 j z hz
    have hlm : ∀ k, X.heap.size ≤ k → ¬ mtS Z lv k := fun k hk e => by have := (unhide HML).lt e; omega
    have hzz := (unhide HML).bl.lt
    refine ⟨(unhide HS).keep (unhide HG) fA (fun _ _ e => e), (fA.cell (a := ⟨X.heap.size, 0, none⟩) ls (fun e => e)).trans s0, (fA.cell (a := ⟨X.heap.size, 1, none⟩) ls (fun e => e)).trans s1, ?_, ?_, ?_, .inl rfl, hlm _ (Nat.le_refl _), hlm _ (by omega), by omega, by omega⟩
    · have := nb 0 _ rfl; rw [Go.WideShapes.add_plain] at this; exact this
    · have := nb 1 _ rfl; rw [Go.WideShapes.add_plain] at this; exact this
    · exact ((unhide HF1).mono (fun _ _ e => e.elim)).step fA (fun _ _ e => e.elim)
  obtain ⟨W2, eW2⟩ : ∃ W2, W2 = (X1.alloc (.cells #[.int .i64 op, .int .i64 a] 92)).drew := ⟨_, rfl⟩
  obtain ⟨ib, hib⟩ : ∃ ib, ib = X1.heap.size := ⟨_, rfl⟩
  rw [← eW2, ← hib] at hG2
  rw [← eW2, ← hib]
  clear eW2 hib hSa hSb hHeld
  have a0 := hG2.i0
  have a1 := hG2.i1
  have la := World.block_lt_of_cell? _ _ a0
  have HG2 := hide hG2
  clear hG2 k0 k1 c3 lw s0 s1 ls lc
  obtain ⟨T, hT⟩ : ∃ T, Hid (tkI op a = T) := ⟨_, rfl⟩
  obtain ⟨U, hU⟩ : ∃ U, Hid (ptI op a = U) := ⟨_, rfl⟩
  obtain ⟨jm, hJ⟩ : ∃ T, Hid (jmB op = T) := ⟨_, rfl⟩
  obtain ⟨en, hE⟩ : ∃ T, Hid (enB op = T) := ⟨_, rfl⟩
  have hTB : 0 ≤ T ∧ T ≤ 66 ∧ 0 ≤ U ∧ U ≤ 2 := by rw [← unhide hT, ← unhide hU]; exact tp_bounds hok
  have hJA := hide hja
  have HEF := hide (effect_any W2 op a)
  rw [unhide hT, unhide hU, hok] at HEF
  have HE : Hid (∀ w, Calls Tryz.prog 107 #[.int .i64 op] w fun e w' => e = .returned (.bool en) ∧ w' = w) := fun w => by rw [← unhide hE]; exact ends_any w op
  clear hok hja
  go_wp2_with fail
  refine (unhide HEF).mono ?_
  rintro e W3 ⟨rfl, hb3⟩
  have H3 := hide ((unhide HG2).keep (unhide HG) (Fr.of_below (S := fun _ => False) hb3) (fun _ _ e => e))
  clear hb3 HEF HG2 a0 a1 la
  have b1 := (unhide H3).s1
  have b0 := (unhide H3).s0
  have b7 := (unhide H3).st.cell (j := 7) rfl
  have b5 := (unhide H3).st.cell (j := 5) rfl
  rw [unhide hN] at b7 b5
  have bh := (unhide H3).st.hcell (unhide HH)
  have bf := (unhide H3).st.fcell (unhide HFl)
  have l1 := World.block_lt_of_cell? _ _ b1
  have l7 := World.block_lt_of_cell? _ _ b7
  have lh := World.block_lt_of_cell? _ _ bh
  have lf := World.block_lt_of_cell? _ _ bf
  obtain ⟨kp, hKP⟩ : ∃ kp, Hid (ht - T = kp) := ⟨_, rfl⟩
  obtain ⟨af, hAF⟩ : ∃ af, Hid (ht - T + U = af) := ⟨_, rfl⟩
  have hkb : Hid (kp = ht - T ∧ af = kp + U) := by have := unhide hKP; have := unhide hAF; unfold Hid; omega
  have kb1 : -66 ≤ kp := by have := unhide hkb; omega
  have kb2 : kp ≤ 1000 := by have := unhide hkb; omega
  have kb3 : -66 ≤ af := by have := unhide hkb; omega
  have kb4 : af ≤ 1002 := by have := unhide hkb; omega
  have hw1 : IntKind.i64.wrap (ht - T) = kp := by have := unhide hkb; rw [IntKind.wrap_i64]; omega
  have hw2 : IntKind.i64.wrap (kp + U) = af := by have := unhide hkb; rw [IntKind.wrap_i64]; omega
  go_wp2_with fail
  clear hw1 hw2
  by_cases hA : ht = hv
  · subst hA
    by_cases hB : kp < fv
    · go_quiet (fail)
      obtain ⟨W4, eW4⟩ : ∃ W4, W4 = W3.drewN nq := ⟨_, rfl⟩
      have H4 : Hid (GS w0 Z wb fb hb x f fl X lv X.heap.size ib (p : Int) ht op a iv lv idle hts wr met left W4) := by rw [eW4]; exact (unhide H3).keep (unhide HG) (Fr.drewN (S := fun _ => False) nq) (fun _ _ e => e)
      rw [← eW4]
      clear eW4 H3 b0 b1 b5 b7 bh bf l1 l7 lh lf
      have d8 := (unhide H4).st.cell (j := 8) rfl
      have fz8 := (unhide H4).st.free 8
      have d0 := (unhide H4).s0
      have lw8 := World.block_lt_of_cell? _ _ d8
      have ls8 := World.block_lt_of_cell? _ _ d0
      have hsw : Hid (¬ X.heap.size = wb) := by have := (unhide HG).wz; have := (unhide H4).zs; unfold Hid; omega
      go_wp2_with fail
      by_cases hmn : (p : Int) < wr
      · have hmin : Hid (min wr (p : Int) = (p : Int)) := by unfold Hid; omega
        have hSt : Fr (fun k => k = wb) W4 ((W4.setCell ⟨wb, 8, none⟩ (.int .i64 (p : Int))).drew) := ((Fr.refl (fun k => k = wb) W4).setCell ⟨wb, 8, none⟩ (.inr rfl) _).drew
        refine wp_region_held_drew (S := (fun wx => Fr (fun k => k = wb) W4 wx)) (by kernel_rfl) ((Fr.refl _ W4).drew) (fun hHeld => ?_)
        refine wpAnyH_take (i := 0) (oi := _) (v := .pointer (some ⟨wb, 0, none⟩)) rfl (by kernel_rfl) (by kernel_rfl) (by kernel_rfl) (fun _ _ _ h => h) (Or.inl ⟨by rfl, (by intro w hSw; go_simp)⟩) (by assumption) ?_
        go_simp
        refine wpAnyH_take (i := 1) (oi := _) (v := .pointer (some ⟨wb, 0, none⟩)) rfl (by kernel_rfl) (by kernel_rfl) (by kernel_rfl) (fun _ _ _ h => h) (Or.inl ⟨by rfl, (by intro w hSw; go_simp)⟩) (by assumption) ?_
        go_simp
        refine wpAnyH_take (i := 2) (oi := _) (v := .pointer (some ⟨wb, 0, none⟩)) rfl (by kernel_rfl) (by kernel_rfl) (by kernel_rfl) (fun _ _ _ h => h) (Or.inl ⟨by rfl, (by intro w hSw; go_simp)⟩) (by assumption) ?_
        go_simp
        refine wpAnyH_take (i := 3) (oi := _) (v := .pointer (some ⟨wb, 8, none⟩)) rfl (by kernel_rfl) (by kernel_rfl) (by kernel_rfl) (fun _ _ _ h => h) (Or.inl ⟨by rfl, (by intro w hSw; go_simp)⟩) (by assumption) ?_
        go_simp
        refine wpAnyH_take (i := 5) (oi := _) (v := .pointer (some ⟨X.heap.size, 0, none⟩)) rfl (by kernel_rfl) (by kernel_rfl) (by kernel_rfl) (fun _ _ _ h => h) (Or.inl ⟨by rfl, (by intro w hSw; go_simp)⟩) (by assumption) ?_
        go_simp
        refine wpAnyH_take (i := 6) (oi := _) (v := .int .i64 (p : Int)) rfl (by kernel_rfl) (by kernel_rfl) (by kernel_rfl) (fun _ _ _ h => h) (Or.inl ⟨by rfl, (by intro w hSw; have q0 := (hSw.cell (a := ⟨X.heap.size, 0, none⟩) ls8 (fun e => unhide hsw e)).trans d0; go_simp)⟩) (by assumption) ?_
        go_simp
        refine wpAnyH_ready (rs := [4]) (by kernel_rfl) (by simp) ?_
        refine AllReadyH.cons (o := _) rfl (fun K hK => ?_) AllReadyH.nil
        go_simp
        refine hK.out _ _ (hHeld) (fun hHeld4x => ?_)
        clear hK K
        go_simp
        refine wpAnyH_take (i := 7) (oi := _) (v := .int .i64 (p : Int)) rfl (by kernel_rfl) (by kernel_rfl) (by kernel_rfl) (fun _ _ _ h => h) (Or.inl ⟨by rfl, (by intro w hSw; go_simp)⟩) (by assumption) ?_
        go_simp
        refine wpAnyH_take (i := 8) (oi := _) (v := .pointer (some ⟨wb, 0, none⟩)) rfl (by kernel_rfl) (by kernel_rfl) (by kernel_rfl) (fun _ _ _ h => h) (Or.inl ⟨by rfl, (by intro w hSw; go_simp)⟩) (by assumption) ?_
        go_simp
        refine wpAnyH_take (i := 9) (oi := _) (v := .pointer (some ⟨wb, 8, none⟩)) rfl (by kernel_rfl) (by kernel_rfl) (by kernel_rfl) (fun _ _ _ h => h) (Or.inl ⟨by rfl, (by intro w hSw; go_simp)⟩) (by assumption) ?_
        go_simp
        refine wpAnyH_ready (rs := [10]) (by kernel_rfl) (by simp) ?_
        refine AllReadyH.cons (o := _) rfl (fun K hK => ?_) AllReadyH.nil
        go_simp
        refine hK.out _ _ (hSt) (fun hHeld10x => ?_)
        clear hK K
        go_simp
        refine wpAnyH_done (by kernel_rfl) ?_ _
        have HW4 := hide (((unhide H4).put (unhide HG) (p : Int)).keep (unhide HG) (Fr.refl (fun _ => False) _).drew (fun _ _ e => e))
        have HWR : Hid (nwr wr p ht ht fv op a = (p : Int)) := by
          unfold Hid nwr
          rw [unhide hT, unhide hU, if_pos (.inr (.inl (by have := unhide hkb; omega))), unhide hmin]
        clear d8 d0 fz8 hHeld lw8 ls8 H4
        obtain ⟨W, eW⟩ : ∃ W, W = (W4.setCell ⟨wb, 8, none⟩ (.int .i64 (p : Int))).drew := ⟨_, rfl⟩
        have HW : Hid (GS w0 Z wb fb hb x f fl X lv X.heap.size ib (p : Int) ht op a iv lv idle hts (p : Int) met left W) := by rw [eW]; exact HW4
        try rw [← eW]
        clear eW HW4
        by_cases hk0 : kp < 0
        · have HNX : Hid (nx f.code.length op a p ht = []) := by
            unfold Hid nx
            rw [unhide hT, if_pos (.inl (by have := unhide hkb; omega))]
          go_wp2_with fail
          (try simp only [Exit.inBlock, Exit.then])
          refine bodyPost_ret (results_none rfl _ _ _) rfl ?_
          exact ⟨⟨_, rfl⟩, _, by rw [unhide HWR, unhide HNX]; exact (unhide HW).st, (unhide HW).fr, (unhide HW).nw⟩
        · by_cases hk1 : 64 < af
          · have HNX : Hid (nx f.code.length op a p ht = []) := by
              unfold Hid nx
              rw [unhide hT, unhide hU, if_pos (.inr (by have := unhide hkb; omega))]
            go_wp2_with fail
            (try simp only [Exit.inBlock, Exit.then])
            refine bodyPost_ret (results_none rfl _ _ _) rfl ?_
            exact ⟨⟨_, rfl⟩, _, by rw [unhide HWR, unhide HNX]; exact (unhide HW).st, (unhide HW).fr, (unhide HW).nw⟩
          · have i0 := (unhide HW).i0
            have li0 := World.block_lt_of_cell? _ _ i0
            have HC0 := hide (jumps_any W op)
            rw [unhide hJ] at HC0
            go_wp2_with fail
            refine (unhide HC0).mono ?_
            rintro e W5 ⟨rfl, hb5⟩
            have H5 := hide ((unhide HW).keep (unhide HG) (Fr.of_below (S := fun _ => False) hb5) (fun _ _ e => e))
            clear hb5 HC0 i0 li0
            cases hjm : jm with
            | true =>
              subst hjm
              have j1 := (unhide H5).i1
              have lj1 := World.block_lt_of_cell? _ _ j1
              have hja' := unhide hJA (unhide hJ)
              have HC := hide (meet_any a af (OkS.of (by omega) (by omega) (by omega) (by omega)) (unhide H5).st.ml (by omega) (by omega))
              go_wp2_with fail
              refine (unhide HC).mono ?_
              rintro e W6 ⟨⟨_, rfl⟩, lv6, hM6, hF6, hN6⟩
              have H6 := hide ((unhide H5).meet (unhide HG) hM6 hF6 hN6)
              have HLN : Hid ((mtM met (a, af)).length ≤ met.length + 1 ∧ (mtL met left (a, af)).length ≤ left.length + 1 ∧ left.length < 100000000 ∧ met.length < 100000000) := ⟨mtM_length _ _, mtL_length _ _ _, hl, hm⟩
              clear hM6 hF6 hN6 HC j1 lj1 hja'
              have e0 := (unhide H6).i0
              have e1 := (unhide H6).s0
              have e2 := (unhide H6).st.cell (j := 3) rfl
              rw [ev, unhide hN] at e2
              have le0 := World.block_lt_of_cell? _ _ e0
              have le1 := World.block_lt_of_cell? _ _ e1
              have le2 := World.block_lt_of_cell? _ _ e2
              have hpw : IntKind.i64.wrap ((p : Int) + 1) = (p : Int) + 1 := by rw [IntKind.wrap_i64]; omega
              cases hen : en with
              | true =>
                subst hen
                have HNX : Hid (nx f.code.length op a p ht = [(a, af)]) := by
                  unfold Hid nx
                  rw [unhide hT, unhide hU, unhide hAF, if_neg (by have := unhide hkb; omega), unhide hJ, unhide hE]
                  simp
                go_wp2_with fail
                go_quiet (first | (go_at_call 107; exact Calls.quiet_of_same (unhide HE _)))
                go_wp2_with fail
                go_end0
                exact ⟨⟨_, rfl⟩, _, by rw [unhide HWR, unhide HNX]; exact ((unhide H6).keep (unhide HG) (Fr.drewN (S := fun _ => False) nq) (fun _ _ e => e)).st, ((unhide H6).keep (unhide HG) (Fr.drewN (S := fun _ => False) nq) (fun _ _ e => e)).fr, (unhide H6).nw⟩
              | false =>
                subst hen
                by_cases hp1 : p + 1 < N
                · have HNX : Hid (nx f.code.length op a p ht = [(a, af)] ++ [((p : Int) + 1, af)]) := by
                    unfold Hid nx
                    rw [unhide hT, unhide hU, unhide hAF, if_neg (by have := unhide hkb; omega), unhide hJ, unhide hE, unhide hN, if_pos (c := _ ∧ _) ⟨by decide, hp1⟩]
                    simp
                  have hp2 : (p : Int) + 1 < (N : Int) := by omega
                  go_wp2_with fail
                  go_quiet (first | (go_at_call 107; exact Calls.quiet_of_same (unhide HE _)))
                  have hGd := (unhide H6).keep (unhide HG) (Fr.drewN (S := fun _ => False) nq) (fun _ _ e => e)
                  have HC := hide (meet_any ((p : Int) + 1) af (OkS.of (by omega) (by omega) (by omega) (by omega)) hGd.st.ml (by have := unhide HLN; omega) (by have := unhide HLN; omega))
                  have HGd := hide hGd
                  clear hGd
                  obtain ⟨W7, eW7⟩ : ∃ W7, W7 = W6.drewN nq := ⟨_, rfl⟩
                  rw [← eW7] at HC HGd
                  rw [← eW7]
                  clear eW7
                  have e1 := (unhide HGd).s0
                  have le1 := World.block_lt_of_cell? _ _ e1
                  go_wp2_with fail
                  refine (unhide HC).mono ?_
                  rintro e Wl ⟨⟨_, rfl⟩, lv9, hM9, hF9, hN9⟩
                  have HL := hide ((unhide HGd).meet (unhide HG) hM9 hF9 hN9)
                  clear hM9 hF9 hN9
                  go_wp2_with fail
                  go_end0
                  exact ⟨⟨_, rfl⟩, _, by rw [unhide HWR, unhide HNX]; exact (unhide HL).st, (unhide HL).fr, (unhide HL).nw⟩
                · have HNX : Hid (nx f.code.length op a p ht = [(a, af)]) := by
                    unfold Hid nx
                    rw [unhide hT, unhide hU, unhide hAF, if_neg (by have := unhide hkb; omega), unhide hJ, unhide hE, unhide hN, if_neg (c := _ ∧ _) (fun q => hp1 q.2)]
                    simp
                  have hp2 : ¬ (p : Int) + 1 < (N : Int) := by omega
                  go_wp2_with fail
                  go_quiet (first | (go_at_call 107; exact Calls.quiet_of_same (unhide HE _)))
                  go_wp2_with fail
                  go_end0
                  exact ⟨⟨_, rfl⟩, _, by rw [unhide HWR, unhide HNX]; exact ((unhide H6).keep (unhide HG) (Fr.drewN (S := fun _ => False) nq) (fun _ _ e => e)).st, ((unhide H6).keep (unhide HG) (Fr.drewN (S := fun _ => False) nq) (fun _ _ e => e)).fr, (unhide H6).nw⟩

            | false =>
              subst hjm
              have HLN : Hid (left.length < 100000000 ∧ met.length < 100000000) := ⟨hl, hm⟩
              have e0 := (unhide H5).i0
              have e1 := (unhide H5).s0
              have e2 := (unhide H5).st.cell (j := 3) rfl
              rw [ev, unhide hN] at e2
              have le0 := World.block_lt_of_cell? _ _ e0
              have le1 := World.block_lt_of_cell? _ _ e1
              have le2 := World.block_lt_of_cell? _ _ e2
              have hpw : IntKind.i64.wrap ((p : Int) + 1) = (p : Int) + 1 := by rw [IntKind.wrap_i64]; omega
              cases hen : en with
              | true =>
                subst hen
                have HNX : Hid (nx f.code.length op a p ht = []) := by
                  unfold Hid nx
                  rw [unhide hT, unhide hU, unhide hAF, if_neg (by have := unhide hkb; omega), unhide hJ, unhide hE]
                  simp
                go_wp2_with fail
                go_quiet (first | (go_at_call 107; exact Calls.quiet_of_same (unhide HE _)))
                go_wp2_with fail
                go_end0
                exact ⟨⟨_, rfl⟩, _, by rw [unhide HWR, unhide HNX]; exact ((unhide H5).keep (unhide HG) (Fr.drewN (S := fun _ => False) nq) (fun _ _ e => e)).st, ((unhide H5).keep (unhide HG) (Fr.drewN (S := fun _ => False) nq) (fun _ _ e => e)).fr, (unhide H5).nw⟩
              | false =>
                subst hen
                by_cases hp1 : p + 1 < N
                · have HNX : Hid (nx f.code.length op a p ht = [] ++ [((p : Int) + 1, af)]) := by
                    unfold Hid nx
                    rw [unhide hT, unhide hU, unhide hAF, if_neg (by have := unhide hkb; omega), unhide hJ, unhide hE, unhide hN, if_pos (c := _ ∧ _) ⟨by decide, hp1⟩]
                    simp
                  have hp2 : (p : Int) + 1 < (N : Int) := by omega
                  go_wp2_with fail
                  go_quiet (first | (go_at_call 107; exact Calls.quiet_of_same (unhide HE _)))
                  have hGd := (unhide H5).keep (unhide HG) (Fr.drewN (S := fun _ => False) nq) (fun _ _ e => e)
                  have HC := hide (meet_any ((p : Int) + 1) af (OkS.of (by omega) (by omega) (by omega) (by omega)) hGd.st.ml (by have := unhide HLN; omega) (by have := unhide HLN; omega))
                  have HGd := hide hGd
                  clear hGd
                  obtain ⟨W7, eW7⟩ : ∃ W7, W7 = W5.drewN nq := ⟨_, rfl⟩
                  rw [← eW7] at HC HGd
                  rw [← eW7]
                  clear eW7
                  have e1 := (unhide HGd).s0
                  have le1 := World.block_lt_of_cell? _ _ e1
                  go_wp2_with fail
                  refine (unhide HC).mono ?_
                  rintro e Wl ⟨⟨_, rfl⟩, lv9, hM9, hF9, hN9⟩
                  have HL := hide ((unhide HGd).meet (unhide HG) hM9 hF9 hN9)
                  clear hM9 hF9 hN9
                  go_wp2_with fail
                  go_end0
                  exact ⟨⟨_, rfl⟩, _, by rw [unhide HWR, unhide HNX]; exact (unhide HL).st, (unhide HL).fr, (unhide HL).nw⟩
                · have HNX : Hid (nx f.code.length op a p ht = []) := by
                    unfold Hid nx
                    rw [unhide hT, unhide hU, unhide hAF, if_neg (by have := unhide hkb; omega), unhide hJ, unhide hE, unhide hN, if_neg (c := _ ∧ _) (fun q => hp1 q.2)]
                    simp
                  have hp2 : ¬ (p : Int) + 1 < (N : Int) := by omega
                  go_wp2_with fail
                  go_quiet (first | (go_at_call 107; exact Calls.quiet_of_same (unhide HE _)))
                  go_wp2_with fail
                  go_end0
                  exact ⟨⟨_, rfl⟩, _, by rw [unhide HWR, unhide HNX]; exact ((unhide H5).keep (unhide HG) (Fr.drewN (S := fun _ => False) nq) (fun _ _ e => e)).st, ((unhide H5).keep (unhide HG) (Fr.drewN (S := fun _ => False) nq) (fun _ _ e => e)).fr, (unhide H5).nw⟩


      · have hmin : Hid (min wr (p : Int) = wr) := by unfold Hid; omega
        have hSt : Fr (fun k => k = wb) W4 ((W4.setCell ⟨wb, 8, none⟩ (.int .i64 wr)).drew) := ((Fr.refl (fun k => k = wb) W4).setCell ⟨wb, 8, none⟩ (.inr rfl) _).drew
        refine wp_region_held_drew (S := (fun wx => Fr (fun k => k = wb) W4 wx)) (by kernel_rfl) ((Fr.refl _ W4).drew) (fun hHeld => ?_)
        refine wpAnyH_take (i := 0) (oi := _) (v := .pointer (some ⟨wb, 0, none⟩)) rfl (by kernel_rfl) (by kernel_rfl) (by kernel_rfl) (fun _ _ _ h => h) (Or.inl ⟨by rfl, (by intro w hSw; go_simp)⟩) (by assumption) ?_
        go_simp
        refine wpAnyH_take (i := 1) (oi := _) (v := .pointer (some ⟨wb, 0, none⟩)) rfl (by kernel_rfl) (by kernel_rfl) (by kernel_rfl) (fun _ _ _ h => h) (Or.inl ⟨by rfl, (by intro w hSw; go_simp)⟩) (by assumption) ?_
        go_simp
        refine wpAnyH_take (i := 2) (oi := _) (v := .pointer (some ⟨wb, 0, none⟩)) rfl (by kernel_rfl) (by kernel_rfl) (by kernel_rfl) (fun _ _ _ h => h) (Or.inl ⟨by rfl, (by intro w hSw; go_simp)⟩) (by assumption) ?_
        go_simp
        refine wpAnyH_take (i := 3) (oi := _) (v := .pointer (some ⟨wb, 8, none⟩)) rfl (by kernel_rfl) (by kernel_rfl) (by kernel_rfl) (fun _ _ _ h => h) (Or.inl ⟨by rfl, (by intro w hSw; go_simp)⟩) (by assumption) ?_
        go_simp
        refine wpAnyH_take (i := 5) (oi := _) (v := .pointer (some ⟨X.heap.size, 0, none⟩)) rfl (by kernel_rfl) (by kernel_rfl) (by kernel_rfl) (fun _ _ _ h => h) (Or.inl ⟨by rfl, (by intro w hSw; go_simp)⟩) (by assumption) ?_
        go_simp
        refine wpAnyH_take (i := 6) (oi := _) (v := .int .i64 (p : Int)) rfl (by kernel_rfl) (by kernel_rfl) (by kernel_rfl) (fun _ _ _ h => h) (Or.inl ⟨by rfl, (by intro w hSw; have q0 := (hSw.cell (a := ⟨X.heap.size, 0, none⟩) ls8 (fun e => unhide hsw e)).trans d0; go_simp)⟩) (by assumption) ?_
        go_simp
        refine wpAnyH_ready (rs := [4]) (by kernel_rfl) (by simp) ?_
        refine AllReadyH.cons (o := _) rfl (fun K hK => ?_) AllReadyH.nil
        go_simp
        refine hK.out _ _ (hHeld) (fun hHeld4x => ?_)
        clear hK K
        go_simp
        refine wpAnyH_take (i := 7) (oi := _) (v := .int .i64 wr) rfl (by kernel_rfl) (by kernel_rfl) (by kernel_rfl) (fun _ _ _ h => h) (Or.inl ⟨by rfl, (by intro w hSw; go_simp)⟩) (by assumption) ?_
        go_simp
        refine wpAnyH_take (i := 8) (oi := _) (v := .pointer (some ⟨wb, 0, none⟩)) rfl (by kernel_rfl) (by kernel_rfl) (by kernel_rfl) (fun _ _ _ h => h) (Or.inl ⟨by rfl, (by intro w hSw; go_simp)⟩) (by assumption) ?_
        go_simp
        refine wpAnyH_take (i := 9) (oi := _) (v := .pointer (some ⟨wb, 8, none⟩)) rfl (by kernel_rfl) (by kernel_rfl) (by kernel_rfl) (fun _ _ _ h => h) (Or.inl ⟨by rfl, (by intro w hSw; go_simp)⟩) (by assumption) ?_
        go_simp
        refine wpAnyH_ready (rs := [10]) (by kernel_rfl) (by simp) ?_
        refine AllReadyH.cons (o := _) rfl (fun K hK => ?_) AllReadyH.nil
        go_simp
        refine hK.out _ _ (hSt) (fun hHeld10x => ?_)
        clear hK K
        go_simp
        refine wpAnyH_done (by kernel_rfl) ?_ _
        have HW4 := hide (((unhide H4).put (unhide HG) wr).keep (unhide HG) (Fr.refl (fun _ => False) _).drew (fun _ _ e => e))
        have HWR : Hid (nwr wr p ht ht fv op a = wr) := by
          unfold Hid nwr
          rw [unhide hT, unhide hU, if_pos (.inr (.inl (by have := unhide hkb; omega))), unhide hmin]
        clear d8 d0 fz8 hHeld lw8 ls8 H4
        obtain ⟨W, eW⟩ : ∃ W, W = (W4.setCell ⟨wb, 8, none⟩ (.int .i64 wr)).drew := ⟨_, rfl⟩
        have HW : Hid (GS w0 Z wb fb hb x f fl X lv X.heap.size ib (p : Int) ht op a iv lv idle hts wr met left W) := by rw [eW]; exact HW4
        try rw [← eW]
        clear eW HW4
        by_cases hk0 : kp < 0
        · have HNX : Hid (nx f.code.length op a p ht = []) := by
            unfold Hid nx
            rw [unhide hT, if_pos (.inl (by have := unhide hkb; omega))]
          go_wp2_with fail
          (try simp only [Exit.inBlock, Exit.then])
          refine bodyPost_ret (results_none rfl _ _ _) rfl ?_
          exact ⟨⟨_, rfl⟩, _, by rw [unhide HWR, unhide HNX]; exact (unhide HW).st, (unhide HW).fr, (unhide HW).nw⟩
        · by_cases hk1 : 64 < af
          · have HNX : Hid (nx f.code.length op a p ht = []) := by
              unfold Hid nx
              rw [unhide hT, unhide hU, if_pos (.inr (by have := unhide hkb; omega))]
            go_wp2_with fail
            (try simp only [Exit.inBlock, Exit.then])
            refine bodyPost_ret (results_none rfl _ _ _) rfl ?_
            exact ⟨⟨_, rfl⟩, _, by rw [unhide HWR, unhide HNX]; exact (unhide HW).st, (unhide HW).fr, (unhide HW).nw⟩
          · have i0 := (unhide HW).i0
            have li0 := World.block_lt_of_cell? _ _ i0
            have HC0 := hide (jumps_any W op)
            rw [unhide hJ] at HC0
            go_wp2_with fail
            refine (unhide HC0).mono ?_
            rintro e W5 ⟨rfl, hb5⟩
            have H5 := hide ((unhide HW).keep (unhide HG) (Fr.of_below (S := fun _ => False) hb5) (fun _ _ e => e))
            clear hb5 HC0 i0 li0
            cases hjm : jm with
            | true =>
              subst hjm
              have j1 := (unhide H5).i1
              have lj1 := World.block_lt_of_cell? _ _ j1
              have hja' := unhide hJA (unhide hJ)
              have HC := hide (meet_any a af (OkS.of (by omega) (by omega) (by omega) (by omega)) (unhide H5).st.ml (by omega) (by omega))
              go_wp2_with fail
              refine (unhide HC).mono ?_
              rintro e W6 ⟨⟨_, rfl⟩, lv6, hM6, hF6, hN6⟩
              have H6 := hide ((unhide H5).meet (unhide HG) hM6 hF6 hN6)
              have HLN : Hid ((mtM met (a, af)).length ≤ met.length + 1 ∧ (mtL met left (a, af)).length ≤ left.length + 1 ∧ left.length < 100000000 ∧ met.length < 100000000) := ⟨mtM_length _ _, mtL_length _ _ _, hl, hm⟩
              clear hM6 hF6 hN6 HC j1 lj1 hja'
              have e0 := (unhide H6).i0
              have e1 := (unhide H6).s0
              have e2 := (unhide H6).st.cell (j := 3) rfl
              rw [ev, unhide hN] at e2
              have le0 := World.block_lt_of_cell? _ _ e0
              have le1 := World.block_lt_of_cell? _ _ e1
              have le2 := World.block_lt_of_cell? _ _ e2
              have hpw : IntKind.i64.wrap ((p : Int) + 1) = (p : Int) + 1 := by rw [IntKind.wrap_i64]; omega
              cases hen : en with
              | true =>
                subst hen
                have HNX : Hid (nx f.code.length op a p ht = [(a, af)]) := by
                  unfold Hid nx
                  rw [unhide hT, unhide hU, unhide hAF, if_neg (by have := unhide hkb; omega), unhide hJ, unhide hE]
                  simp
                go_wp2_with fail
                go_quiet (first | (go_at_call 107; exact Calls.quiet_of_same (unhide HE _)))
                go_wp2_with fail
                go_end0
                exact ⟨⟨_, rfl⟩, _, by rw [unhide HWR, unhide HNX]; exact ((unhide H6).keep (unhide HG) (Fr.drewN (S := fun _ => False) nq) (fun _ _ e => e)).st, ((unhide H6).keep (unhide HG) (Fr.drewN (S := fun _ => False) nq) (fun _ _ e => e)).fr, (unhide H6).nw⟩
              | false =>
                subst hen
                by_cases hp1 : p + 1 < N
                · have HNX : Hid (nx f.code.length op a p ht = [(a, af)] ++ [((p : Int) + 1, af)]) := by
                    unfold Hid nx
                    rw [unhide hT, unhide hU, unhide hAF, if_neg (by have := unhide hkb; omega), unhide hJ, unhide hE, unhide hN, if_pos (c := _ ∧ _) ⟨by decide, hp1⟩]
                    simp
                  have hp2 : (p : Int) + 1 < (N : Int) := by omega
                  go_wp2_with fail
                  go_quiet (first | (go_at_call 107; exact Calls.quiet_of_same (unhide HE _)))
                  have hGd := (unhide H6).keep (unhide HG) (Fr.drewN (S := fun _ => False) nq) (fun _ _ e => e)
                  have HC := hide (meet_any ((p : Int) + 1) af (OkS.of (by omega) (by omega) (by omega) (by omega)) hGd.st.ml (by have := unhide HLN; omega) (by have := unhide HLN; omega))
                  have HGd := hide hGd
                  clear hGd
                  obtain ⟨W7, eW7⟩ : ∃ W7, W7 = W6.drewN nq := ⟨_, rfl⟩
                  rw [← eW7] at HC HGd
                  rw [← eW7]
                  clear eW7
                  have e1 := (unhide HGd).s0
                  have le1 := World.block_lt_of_cell? _ _ e1
                  go_wp2_with fail
                  refine (unhide HC).mono ?_
                  rintro e Wl ⟨⟨_, rfl⟩, lv9, hM9, hF9, hN9⟩
                  have HL := hide ((unhide HGd).meet (unhide HG) hM9 hF9 hN9)
                  clear hM9 hF9 hN9
                  go_wp2_with fail
                  go_end0
                  exact ⟨⟨_, rfl⟩, _, by rw [unhide HWR, unhide HNX]; exact (unhide HL).st, (unhide HL).fr, (unhide HL).nw⟩
                · have HNX : Hid (nx f.code.length op a p ht = [(a, af)]) := by
                    unfold Hid nx
                    rw [unhide hT, unhide hU, unhide hAF, if_neg (by have := unhide hkb; omega), unhide hJ, unhide hE, unhide hN, if_neg (c := _ ∧ _) (fun q => hp1 q.2)]
                    simp
                  have hp2 : ¬ (p : Int) + 1 < (N : Int) := by omega
                  go_wp2_with fail
                  go_quiet (first | (go_at_call 107; exact Calls.quiet_of_same (unhide HE _)))
                  go_wp2_with fail
                  go_end0
                  exact ⟨⟨_, rfl⟩, _, by rw [unhide HWR, unhide HNX]; exact ((unhide H6).keep (unhide HG) (Fr.drewN (S := fun _ => False) nq) (fun _ _ e => e)).st, ((unhide H6).keep (unhide HG) (Fr.drewN (S := fun _ => False) nq) (fun _ _ e => e)).fr, (unhide H6).nw⟩

            | false =>
              subst hjm
              have HLN : Hid (left.length < 100000000 ∧ met.length < 100000000) := ⟨hl, hm⟩
              have e0 := (unhide H5).i0
              have e1 := (unhide H5).s0
              have e2 := (unhide H5).st.cell (j := 3) rfl
              rw [ev, unhide hN] at e2
              have le0 := World.block_lt_of_cell? _ _ e0
              have le1 := World.block_lt_of_cell? _ _ e1
              have le2 := World.block_lt_of_cell? _ _ e2
              have hpw : IntKind.i64.wrap ((p : Int) + 1) = (p : Int) + 1 := by rw [IntKind.wrap_i64]; omega
              cases hen : en with
              | true =>
                subst hen
                have HNX : Hid (nx f.code.length op a p ht = []) := by
                  unfold Hid nx
                  rw [unhide hT, unhide hU, unhide hAF, if_neg (by have := unhide hkb; omega), unhide hJ, unhide hE]
                  simp
                go_wp2_with fail
                go_quiet (first | (go_at_call 107; exact Calls.quiet_of_same (unhide HE _)))
                go_wp2_with fail
                go_end0
                exact ⟨⟨_, rfl⟩, _, by rw [unhide HWR, unhide HNX]; exact ((unhide H5).keep (unhide HG) (Fr.drewN (S := fun _ => False) nq) (fun _ _ e => e)).st, ((unhide H5).keep (unhide HG) (Fr.drewN (S := fun _ => False) nq) (fun _ _ e => e)).fr, (unhide H5).nw⟩
              | false =>
                subst hen
                by_cases hp1 : p + 1 < N
                · have HNX : Hid (nx f.code.length op a p ht = [] ++ [((p : Int) + 1, af)]) := by
                    unfold Hid nx
                    rw [unhide hT, unhide hU, unhide hAF, if_neg (by have := unhide hkb; omega), unhide hJ, unhide hE, unhide hN, if_pos (c := _ ∧ _) ⟨by decide, hp1⟩]
                    simp
                  have hp2 : (p : Int) + 1 < (N : Int) := by omega
                  go_wp2_with fail
                  go_quiet (first | (go_at_call 107; exact Calls.quiet_of_same (unhide HE _)))
                  have hGd := (unhide H5).keep (unhide HG) (Fr.drewN (S := fun _ => False) nq) (fun _ _ e => e)
                  have HC := hide (meet_any ((p : Int) + 1) af (OkS.of (by omega) (by omega) (by omega) (by omega)) hGd.st.ml (by have := unhide HLN; omega) (by have := unhide HLN; omega))
                  have HGd := hide hGd
                  clear hGd
                  obtain ⟨W7, eW7⟩ : ∃ W7, W7 = W5.drewN nq := ⟨_, rfl⟩
                  rw [← eW7] at HC HGd
                  rw [← eW7]
                  clear eW7
                  have e1 := (unhide HGd).s0
                  have le1 := World.block_lt_of_cell? _ _ e1
                  go_wp2_with fail
                  refine (unhide HC).mono ?_
                  rintro e Wl ⟨⟨_, rfl⟩, lv9, hM9, hF9, hN9⟩
                  have HL := hide ((unhide HGd).meet (unhide HG) hM9 hF9 hN9)
                  clear hM9 hF9 hN9
                  go_wp2_with fail
                  go_end0
                  exact ⟨⟨_, rfl⟩, _, by rw [unhide HWR, unhide HNX]; exact (unhide HL).st, (unhide HL).fr, (unhide HL).nw⟩
                · have HNX : Hid (nx f.code.length op a p ht = []) := by
                    unfold Hid nx
                    rw [unhide hT, unhide hU, unhide hAF, if_neg (by have := unhide hkb; omega), unhide hJ, unhide hE, unhide hN, if_neg (c := _ ∧ _) (fun q => hp1 q.2)]
                    simp
                  have hp2 : ¬ (p : Int) + 1 < (N : Int) := by omega
                  go_wp2_with fail
                  go_quiet (first | (go_at_call 107; exact Calls.quiet_of_same (unhide HE _)))
                  go_wp2_with fail
                  go_end0
                  exact ⟨⟨_, rfl⟩, _, by rw [unhide HWR, unhide HNX]; exact ((unhide H5).keep (unhide HG) (Fr.drewN (S := fun _ => False) nq) (fun _ _ e => e)).st, ((unhide H5).keep (unhide HG) (Fr.drewN (S := fun _ => False) nq) (fun _ _ e => e)).fr, (unhide H5).nw⟩


    · by_cases hC : 64 < af
      · go_quiet (fail)
        obtain ⟨W4, eW4⟩ : ∃ W4, W4 = W3.drewN nq := ⟨_, rfl⟩
        have H4 : Hid (GS w0 Z wb fb hb x f fl X lv X.heap.size ib (p : Int) ht op a iv lv idle hts wr met left W4) := by rw [eW4]; exact (unhide H3).keep (unhide HG) (Fr.drewN (S := fun _ => False) nq) (fun _ _ e => e)
        rw [← eW4]
        clear eW4 H3 b0 b1 b5 b7 bh bf l1 l7 lh lf
        have d8 := (unhide H4).st.cell (j := 8) rfl
        have fz8 := (unhide H4).st.free 8
        have d0 := (unhide H4).s0
        have lw8 := World.block_lt_of_cell? _ _ d8
        have ls8 := World.block_lt_of_cell? _ _ d0
        have hsw : Hid (¬ X.heap.size = wb) := by have := (unhide HG).wz; have := (unhide H4).zs; unfold Hid; omega
        go_wp2_with fail
        by_cases hmn : (p : Int) < wr
        · have hmin : Hid (min wr (p : Int) = (p : Int)) := by unfold Hid; omega
          have hSt : Fr (fun k => k = wb) W4 ((W4.setCell ⟨wb, 8, none⟩ (.int .i64 (p : Int))).drew) := ((Fr.refl (fun k => k = wb) W4).setCell ⟨wb, 8, none⟩ (.inr rfl) _).drew
          refine wp_region_held_drew (S := (fun wx => Fr (fun k => k = wb) W4 wx)) (by kernel_rfl) ((Fr.refl _ W4).drew) (fun hHeld => ?_)
          refine wpAnyH_take (i := 0) (oi := _) (v := .pointer (some ⟨wb, 0, none⟩)) rfl (by kernel_rfl) (by kernel_rfl) (by kernel_rfl) (fun _ _ _ h => h) (Or.inl ⟨by rfl, (by intro w hSw; go_simp)⟩) (by assumption) ?_
          go_simp
          refine wpAnyH_take (i := 1) (oi := _) (v := .pointer (some ⟨wb, 0, none⟩)) rfl (by kernel_rfl) (by kernel_rfl) (by kernel_rfl) (fun _ _ _ h => h) (Or.inl ⟨by rfl, (by intro w hSw; go_simp)⟩) (by assumption) ?_
          go_simp
          refine wpAnyH_take (i := 2) (oi := _) (v := .pointer (some ⟨wb, 0, none⟩)) rfl (by kernel_rfl) (by kernel_rfl) (by kernel_rfl) (fun _ _ _ h => h) (Or.inl ⟨by rfl, (by intro w hSw; go_simp)⟩) (by assumption) ?_
          go_simp
          refine wpAnyH_take (i := 3) (oi := _) (v := .pointer (some ⟨wb, 8, none⟩)) rfl (by kernel_rfl) (by kernel_rfl) (by kernel_rfl) (fun _ _ _ h => h) (Or.inl ⟨by rfl, (by intro w hSw; go_simp)⟩) (by assumption) ?_
          go_simp
          refine wpAnyH_take (i := 5) (oi := _) (v := .pointer (some ⟨X.heap.size, 0, none⟩)) rfl (by kernel_rfl) (by kernel_rfl) (by kernel_rfl) (fun _ _ _ h => h) (Or.inl ⟨by rfl, (by intro w hSw; go_simp)⟩) (by assumption) ?_
          go_simp
          refine wpAnyH_take (i := 6) (oi := _) (v := .int .i64 (p : Int)) rfl (by kernel_rfl) (by kernel_rfl) (by kernel_rfl) (fun _ _ _ h => h) (Or.inl ⟨by rfl, (by intro w hSw; have q0 := (hSw.cell (a := ⟨X.heap.size, 0, none⟩) ls8 (fun e => unhide hsw e)).trans d0; go_simp)⟩) (by assumption) ?_
          go_simp
          refine wpAnyH_ready (rs := [4]) (by kernel_rfl) (by simp) ?_
          refine AllReadyH.cons (o := _) rfl (fun K hK => ?_) AllReadyH.nil
          go_simp
          refine hK.out _ _ (hHeld) (fun hHeld4x => ?_)
          clear hK K
          go_simp
          refine wpAnyH_take (i := 7) (oi := _) (v := .int .i64 (p : Int)) rfl (by kernel_rfl) (by kernel_rfl) (by kernel_rfl) (fun _ _ _ h => h) (Or.inl ⟨by rfl, (by intro w hSw; go_simp)⟩) (by assumption) ?_
          go_simp
          refine wpAnyH_take (i := 8) (oi := _) (v := .pointer (some ⟨wb, 0, none⟩)) rfl (by kernel_rfl) (by kernel_rfl) (by kernel_rfl) (fun _ _ _ h => h) (Or.inl ⟨by rfl, (by intro w hSw; go_simp)⟩) (by assumption) ?_
          go_simp
          refine wpAnyH_take (i := 9) (oi := _) (v := .pointer (some ⟨wb, 8, none⟩)) rfl (by kernel_rfl) (by kernel_rfl) (by kernel_rfl) (fun _ _ _ h => h) (Or.inl ⟨by rfl, (by intro w hSw; go_simp)⟩) (by assumption) ?_
          go_simp
          refine wpAnyH_ready (rs := [10]) (by kernel_rfl) (by simp) ?_
          refine AllReadyH.cons (o := _) rfl (fun K hK => ?_) AllReadyH.nil
          go_simp
          refine hK.out _ _ (hSt) (fun hHeld10x => ?_)
          clear hK K
          go_simp
          refine wpAnyH_done (by kernel_rfl) ?_ _
          have HW4 := hide (((unhide H4).put (unhide HG) (p : Int)).keep (unhide HG) (Fr.refl (fun _ => False) _).drew (fun _ _ e => e))
          have HWR : Hid (nwr wr p ht ht fv op a = (p : Int)) := by
            unfold Hid nwr
            rw [unhide hT, unhide hU, if_pos (.inr (.inr (by have := unhide hkb; omega))), unhide hmin]
          clear d8 d0 fz8 hHeld lw8 ls8 H4
          obtain ⟨W, eW⟩ : ∃ W, W = (W4.setCell ⟨wb, 8, none⟩ (.int .i64 (p : Int))).drew := ⟨_, rfl⟩
          have HW : Hid (GS w0 Z wb fb hb x f fl X lv X.heap.size ib (p : Int) ht op a iv lv idle hts (p : Int) met left W) := by rw [eW]; exact HW4
          try rw [← eW]
          clear eW HW4
          by_cases hk0 : kp < 0
          · have HNX : Hid (nx f.code.length op a p ht = []) := by
              unfold Hid nx
              rw [unhide hT, if_pos (.inl (by have := unhide hkb; omega))]
            go_wp2_with fail
            (try simp only [Exit.inBlock, Exit.then])
            refine bodyPost_ret (results_none rfl _ _ _) rfl ?_
            exact ⟨⟨_, rfl⟩, _, by rw [unhide HWR, unhide HNX]; exact (unhide HW).st, (unhide HW).fr, (unhide HW).nw⟩
          · have hk1 := hC
            · have HNX : Hid (nx f.code.length op a p ht = []) := by
                unfold Hid nx
                rw [unhide hT, unhide hU, if_pos (.inr (by have := unhide hkb; omega))]
              go_wp2_with fail
              (try simp only [Exit.inBlock, Exit.then])
              refine bodyPost_ret (results_none rfl _ _ _) rfl ?_
              exact ⟨⟨_, rfl⟩, _, by rw [unhide HWR, unhide HNX]; exact (unhide HW).st, (unhide HW).fr, (unhide HW).nw⟩

        · have hmin : Hid (min wr (p : Int) = wr) := by unfold Hid; omega
          have hSt : Fr (fun k => k = wb) W4 ((W4.setCell ⟨wb, 8, none⟩ (.int .i64 wr)).drew) := ((Fr.refl (fun k => k = wb) W4).setCell ⟨wb, 8, none⟩ (.inr rfl) _).drew
          refine wp_region_held_drew (S := (fun wx => Fr (fun k => k = wb) W4 wx)) (by kernel_rfl) ((Fr.refl _ W4).drew) (fun hHeld => ?_)
          refine wpAnyH_take (i := 0) (oi := _) (v := .pointer (some ⟨wb, 0, none⟩)) rfl (by kernel_rfl) (by kernel_rfl) (by kernel_rfl) (fun _ _ _ h => h) (Or.inl ⟨by rfl, (by intro w hSw; go_simp)⟩) (by assumption) ?_
          go_simp
          refine wpAnyH_take (i := 1) (oi := _) (v := .pointer (some ⟨wb, 0, none⟩)) rfl (by kernel_rfl) (by kernel_rfl) (by kernel_rfl) (fun _ _ _ h => h) (Or.inl ⟨by rfl, (by intro w hSw; go_simp)⟩) (by assumption) ?_
          go_simp
          refine wpAnyH_take (i := 2) (oi := _) (v := .pointer (some ⟨wb, 0, none⟩)) rfl (by kernel_rfl) (by kernel_rfl) (by kernel_rfl) (fun _ _ _ h => h) (Or.inl ⟨by rfl, (by intro w hSw; go_simp)⟩) (by assumption) ?_
          go_simp
          refine wpAnyH_take (i := 3) (oi := _) (v := .pointer (some ⟨wb, 8, none⟩)) rfl (by kernel_rfl) (by kernel_rfl) (by kernel_rfl) (fun _ _ _ h => h) (Or.inl ⟨by rfl, (by intro w hSw; go_simp)⟩) (by assumption) ?_
          go_simp
          refine wpAnyH_take (i := 5) (oi := _) (v := .pointer (some ⟨X.heap.size, 0, none⟩)) rfl (by kernel_rfl) (by kernel_rfl) (by kernel_rfl) (fun _ _ _ h => h) (Or.inl ⟨by rfl, (by intro w hSw; go_simp)⟩) (by assumption) ?_
          go_simp
          refine wpAnyH_take (i := 6) (oi := _) (v := .int .i64 (p : Int)) rfl (by kernel_rfl) (by kernel_rfl) (by kernel_rfl) (fun _ _ _ h => h) (Or.inl ⟨by rfl, (by intro w hSw; have q0 := (hSw.cell (a := ⟨X.heap.size, 0, none⟩) ls8 (fun e => unhide hsw e)).trans d0; go_simp)⟩) (by assumption) ?_
          go_simp
          refine wpAnyH_ready (rs := [4]) (by kernel_rfl) (by simp) ?_
          refine AllReadyH.cons (o := _) rfl (fun K hK => ?_) AllReadyH.nil
          go_simp
          refine hK.out _ _ (hHeld) (fun hHeld4x => ?_)
          clear hK K
          go_simp
          refine wpAnyH_take (i := 7) (oi := _) (v := .int .i64 wr) rfl (by kernel_rfl) (by kernel_rfl) (by kernel_rfl) (fun _ _ _ h => h) (Or.inl ⟨by rfl, (by intro w hSw; go_simp)⟩) (by assumption) ?_
          go_simp
          refine wpAnyH_take (i := 8) (oi := _) (v := .pointer (some ⟨wb, 0, none⟩)) rfl (by kernel_rfl) (by kernel_rfl) (by kernel_rfl) (fun _ _ _ h => h) (Or.inl ⟨by rfl, (by intro w hSw; go_simp)⟩) (by assumption) ?_
          go_simp
          refine wpAnyH_take (i := 9) (oi := _) (v := .pointer (some ⟨wb, 8, none⟩)) rfl (by kernel_rfl) (by kernel_rfl) (by kernel_rfl) (fun _ _ _ h => h) (Or.inl ⟨by rfl, (by intro w hSw; go_simp)⟩) (by assumption) ?_
          go_simp
          refine wpAnyH_ready (rs := [10]) (by kernel_rfl) (by simp) ?_
          refine AllReadyH.cons (o := _) rfl (fun K hK => ?_) AllReadyH.nil
          go_simp
          refine hK.out _ _ (hSt) (fun hHeld10x => ?_)
          clear hK K
          go_simp
          refine wpAnyH_done (by kernel_rfl) ?_ _
          have HW4 := hide (((unhide H4).put (unhide HG) wr).keep (unhide HG) (Fr.refl (fun _ => False) _).drew (fun _ _ e => e))
          have HWR : Hid (nwr wr p ht ht fv op a = wr) := by
            unfold Hid nwr
            rw [unhide hT, unhide hU, if_pos (.inr (.inr (by have := unhide hkb; omega))), unhide hmin]
          clear d8 d0 fz8 hHeld lw8 ls8 H4
          obtain ⟨W, eW⟩ : ∃ W, W = (W4.setCell ⟨wb, 8, none⟩ (.int .i64 wr)).drew := ⟨_, rfl⟩
          have HW : Hid (GS w0 Z wb fb hb x f fl X lv X.heap.size ib (p : Int) ht op a iv lv idle hts wr met left W) := by rw [eW]; exact HW4
          try rw [← eW]
          clear eW HW4
          by_cases hk0 : kp < 0
          · have HNX : Hid (nx f.code.length op a p ht = []) := by
              unfold Hid nx
              rw [unhide hT, if_pos (.inl (by have := unhide hkb; omega))]
            go_wp2_with fail
            (try simp only [Exit.inBlock, Exit.then])
            refine bodyPost_ret (results_none rfl _ _ _) rfl ?_
            exact ⟨⟨_, rfl⟩, _, by rw [unhide HWR, unhide HNX]; exact (unhide HW).st, (unhide HW).fr, (unhide HW).nw⟩
          · have hk1 := hC
            · have HNX : Hid (nx f.code.length op a p ht = []) := by
                unfold Hid nx
                rw [unhide hT, unhide hU, if_pos (.inr (by have := unhide hkb; omega))]
              go_wp2_with fail
              (try simp only [Exit.inBlock, Exit.then])
              refine bodyPost_ret (results_none rfl _ _ _) rfl ?_
              exact ⟨⟨_, rfl⟩, _, by rw [unhide HWR, unhide HNX]; exact (unhide HW).st, (unhide HW).fr, (unhide HW).nw⟩

      · go_quiet (fail)
        obtain ⟨W4, eW4⟩ : ∃ W4, W4 = W3.drewN nq := ⟨_, rfl⟩
        have H4 : Hid (GS w0 Z wb fb hb x f fl X lv X.heap.size ib (p : Int) ht op a iv lv idle hts wr met left W4) := by rw [eW4]; exact (unhide H3).keep (unhide HG) (Fr.drewN (S := fun _ => False) nq) (fun _ _ e => e)
        rw [← eW4]
        clear eW4 H3 b0 b1 b5 b7 bh bf l1 l7 lh lf
        have HW := H4
        have HWR : Hid (nwr wr p ht ht fv op a = wr) := by
          unfold Hid nwr
          rw [unhide hT, unhide hU, if_neg (by have := unhide hkb; rintro (q | q | q); exact q rfl; all_goals omega)]
        obtain ⟨W, eW⟩ : ∃ W, W = W4 := ⟨_, rfl⟩
        subst eW
        by_cases hk0 : kp < 0
        · have HNX : Hid (nx f.code.length op a p ht = []) := by
            unfold Hid nx
            rw [unhide hT, if_pos (.inl (by have := unhide hkb; omega))]
          go_wp2_with fail
          (try simp only [Exit.inBlock, Exit.then])
          refine bodyPost_ret (results_none rfl _ _ _) rfl ?_
          exact ⟨⟨_, rfl⟩, _, by rw [unhide HWR, unhide HNX]; exact (unhide HW).st, (unhide HW).fr, (unhide HW).nw⟩
        · have hk1 := hC
          · have i0 := (unhide HW).i0
            have li0 := World.block_lt_of_cell? _ _ i0
            have HC0 := hide (jumps_any W op)
            rw [unhide hJ] at HC0
            go_wp2_with fail
            refine (unhide HC0).mono ?_
            rintro e W5 ⟨rfl, hb5⟩
            have H5 := hide ((unhide HW).keep (unhide HG) (Fr.of_below (S := fun _ => False) hb5) (fun _ _ e => e))
            clear hb5 HC0 i0 li0
            cases hjm : jm with
            | true =>
              subst hjm
              have j1 := (unhide H5).i1
              have lj1 := World.block_lt_of_cell? _ _ j1
              have hja' := unhide hJA (unhide hJ)
              have HC := hide (meet_any a af (OkS.of (by omega) (by omega) (by omega) (by omega)) (unhide H5).st.ml (by omega) (by omega))
              go_wp2_with fail
              refine (unhide HC).mono ?_
              rintro e W6 ⟨⟨_, rfl⟩, lv6, hM6, hF6, hN6⟩
              have H6 := hide ((unhide H5).meet (unhide HG) hM6 hF6 hN6)
              have HLN : Hid ((mtM met (a, af)).length ≤ met.length + 1 ∧ (mtL met left (a, af)).length ≤ left.length + 1 ∧ left.length < 100000000 ∧ met.length < 100000000) := ⟨mtM_length _ _, mtL_length _ _ _, hl, hm⟩
              clear hM6 hF6 hN6 HC j1 lj1 hja'
              have e0 := (unhide H6).i0
              have e1 := (unhide H6).s0
              have e2 := (unhide H6).st.cell (j := 3) rfl
              rw [ev, unhide hN] at e2
              have le0 := World.block_lt_of_cell? _ _ e0
              have le1 := World.block_lt_of_cell? _ _ e1
              have le2 := World.block_lt_of_cell? _ _ e2
              have hpw : IntKind.i64.wrap ((p : Int) + 1) = (p : Int) + 1 := by rw [IntKind.wrap_i64]; omega
              cases hen : en with
              | true =>
                subst hen
                have HNX : Hid (nx f.code.length op a p ht = [(a, af)]) := by
                  unfold Hid nx
                  rw [unhide hT, unhide hU, unhide hAF, if_neg (by have := unhide hkb; omega), unhide hJ, unhide hE]
                  simp
                go_wp2_with fail
                go_quiet (first | (go_at_call 107; exact Calls.quiet_of_same (unhide HE _)))
                go_wp2_with fail
                go_end0
                exact ⟨⟨_, rfl⟩, _, by rw [unhide HWR, unhide HNX]; exact ((unhide H6).keep (unhide HG) (Fr.drewN (S := fun _ => False) nq) (fun _ _ e => e)).st, ((unhide H6).keep (unhide HG) (Fr.drewN (S := fun _ => False) nq) (fun _ _ e => e)).fr, (unhide H6).nw⟩
              | false =>
                subst hen
                by_cases hp1 : p + 1 < N
                · have HNX : Hid (nx f.code.length op a p ht = [(a, af)] ++ [((p : Int) + 1, af)]) := by
                    unfold Hid nx
                    rw [unhide hT, unhide hU, unhide hAF, if_neg (by have := unhide hkb; omega), unhide hJ, unhide hE, unhide hN, if_pos (c := _ ∧ _) ⟨by decide, hp1⟩]
                    simp
                  have hp2 : (p : Int) + 1 < (N : Int) := by omega
                  go_wp2_with fail
                  go_quiet (first | (go_at_call 107; exact Calls.quiet_of_same (unhide HE _)))
                  have hGd := (unhide H6).keep (unhide HG) (Fr.drewN (S := fun _ => False) nq) (fun _ _ e => e)
                  have HC := hide (meet_any ((p : Int) + 1) af (OkS.of (by omega) (by omega) (by omega) (by omega)) hGd.st.ml (by have := unhide HLN; omega) (by have := unhide HLN; omega))
                  have HGd := hide hGd
                  clear hGd
                  obtain ⟨W7, eW7⟩ : ∃ W7, W7 = W6.drewN nq := ⟨_, rfl⟩
                  rw [← eW7] at HC HGd
                  rw [← eW7]
                  clear eW7
                  have e1 := (unhide HGd).s0
                  have le1 := World.block_lt_of_cell? _ _ e1
                  go_wp2_with fail
                  refine (unhide HC).mono ?_
                  rintro e Wl ⟨⟨_, rfl⟩, lv9, hM9, hF9, hN9⟩
                  have HL := hide ((unhide HGd).meet (unhide HG) hM9 hF9 hN9)
                  clear hM9 hF9 hN9
                  go_wp2_with fail
                  go_end0
                  exact ⟨⟨_, rfl⟩, _, by rw [unhide HWR, unhide HNX]; exact (unhide HL).st, (unhide HL).fr, (unhide HL).nw⟩
                · have HNX : Hid (nx f.code.length op a p ht = [(a, af)]) := by
                    unfold Hid nx
                    rw [unhide hT, unhide hU, unhide hAF, if_neg (by have := unhide hkb; omega), unhide hJ, unhide hE, unhide hN, if_neg (c := _ ∧ _) (fun q => hp1 q.2)]
                    simp
                  have hp2 : ¬ (p : Int) + 1 < (N : Int) := by omega
                  go_wp2_with fail
                  go_quiet (first | (go_at_call 107; exact Calls.quiet_of_same (unhide HE _)))
                  go_wp2_with fail
                  go_end0
                  exact ⟨⟨_, rfl⟩, _, by rw [unhide HWR, unhide HNX]; exact ((unhide H6).keep (unhide HG) (Fr.drewN (S := fun _ => False) nq) (fun _ _ e => e)).st, ((unhide H6).keep (unhide HG) (Fr.drewN (S := fun _ => False) nq) (fun _ _ e => e)).fr, (unhide H6).nw⟩

            | false =>
              subst hjm
              have HLN : Hid (left.length < 100000000 ∧ met.length < 100000000) := ⟨hl, hm⟩
              have e0 := (unhide H5).i0
              have e1 := (unhide H5).s0
              have e2 := (unhide H5).st.cell (j := 3) rfl
              rw [ev, unhide hN] at e2
              have le0 := World.block_lt_of_cell? _ _ e0
              have le1 := World.block_lt_of_cell? _ _ e1
              have le2 := World.block_lt_of_cell? _ _ e2
              have hpw : IntKind.i64.wrap ((p : Int) + 1) = (p : Int) + 1 := by rw [IntKind.wrap_i64]; omega
              cases hen : en with
              | true =>
                subst hen
                have HNX : Hid (nx f.code.length op a p ht = []) := by
                  unfold Hid nx
                  rw [unhide hT, unhide hU, unhide hAF, if_neg (by have := unhide hkb; omega), unhide hJ, unhide hE]
                  simp
                go_wp2_with fail
                go_quiet (first | (go_at_call 107; exact Calls.quiet_of_same (unhide HE _)))
                go_wp2_with fail
                go_end0
                exact ⟨⟨_, rfl⟩, _, by rw [unhide HWR, unhide HNX]; exact ((unhide H5).keep (unhide HG) (Fr.drewN (S := fun _ => False) nq) (fun _ _ e => e)).st, ((unhide H5).keep (unhide HG) (Fr.drewN (S := fun _ => False) nq) (fun _ _ e => e)).fr, (unhide H5).nw⟩
              | false =>
                subst hen
                by_cases hp1 : p + 1 < N
                · have HNX : Hid (nx f.code.length op a p ht = [] ++ [((p : Int) + 1, af)]) := by
                    unfold Hid nx
                    rw [unhide hT, unhide hU, unhide hAF, if_neg (by have := unhide hkb; omega), unhide hJ, unhide hE, unhide hN, if_pos (c := _ ∧ _) ⟨by decide, hp1⟩]
                    simp
                  have hp2 : (p : Int) + 1 < (N : Int) := by omega
                  go_wp2_with fail
                  go_quiet (first | (go_at_call 107; exact Calls.quiet_of_same (unhide HE _)))
                  have hGd := (unhide H5).keep (unhide HG) (Fr.drewN (S := fun _ => False) nq) (fun _ _ e => e)
                  have HC := hide (meet_any ((p : Int) + 1) af (OkS.of (by omega) (by omega) (by omega) (by omega)) hGd.st.ml (by have := unhide HLN; omega) (by have := unhide HLN; omega))
                  have HGd := hide hGd
                  clear hGd
                  obtain ⟨W7, eW7⟩ : ∃ W7, W7 = W5.drewN nq := ⟨_, rfl⟩
                  rw [← eW7] at HC HGd
                  rw [← eW7]
                  clear eW7
                  have e1 := (unhide HGd).s0
                  have le1 := World.block_lt_of_cell? _ _ e1
                  go_wp2_with fail
                  refine (unhide HC).mono ?_
                  rintro e Wl ⟨⟨_, rfl⟩, lv9, hM9, hF9, hN9⟩
                  have HL := hide ((unhide HGd).meet (unhide HG) hM9 hF9 hN9)
                  clear hM9 hF9 hN9
                  go_wp2_with fail
                  go_end0
                  exact ⟨⟨_, rfl⟩, _, by rw [unhide HWR, unhide HNX]; exact (unhide HL).st, (unhide HL).fr, (unhide HL).nw⟩
                · have HNX : Hid (nx f.code.length op a p ht = []) := by
                    unfold Hid nx
                    rw [unhide hT, unhide hU, unhide hAF, if_neg (by have := unhide hkb; omega), unhide hJ, unhide hE, unhide hN, if_neg (c := _ ∧ _) (fun q => hp1 q.2)]
                    simp
                  have hp2 : ¬ (p : Int) + 1 < (N : Int) := by omega
                  go_wp2_with fail
                  go_quiet (first | (go_at_call 107; exact Calls.quiet_of_same (unhide HE _)))
                  go_wp2_with fail
                  go_end0
                  exact ⟨⟨_, rfl⟩, _, by rw [unhide HWR, unhide HNX]; exact ((unhide H5).keep (unhide HG) (Fr.drewN (S := fun _ => False) nq) (fun _ _ e => e)).st, ((unhide H5).keep (unhide HG) (Fr.drewN (S := fun _ => False) nq) (fun _ _ e => e)).fr, (unhide H5).nw⟩

  · go_quiet (fail)
    obtain ⟨W4, eW4⟩ : ∃ W4, W4 = W3.drewN nq := ⟨_, rfl⟩
    have H4 : Hid (GS w0 Z wb fb hb x f fl X lv X.heap.size ib (p : Int) ht op a iv lv idle hts wr met left W4) := by rw [eW4]; exact (unhide H3).keep (unhide HG) (Fr.drewN (S := fun _ => False) nq) (fun _ _ e => e)
    rw [← eW4]
    clear eW4 H3 b0 b1 b5 b7 bh bf l1 l7 lh lf
    have d8 := (unhide H4).st.cell (j := 8) rfl
    have fz8 := (unhide H4).st.free 8
    have d0 := (unhide H4).s0
    have lw8 := World.block_lt_of_cell? _ _ d8
    have ls8 := World.block_lt_of_cell? _ _ d0
    have hsw : Hid (¬ X.heap.size = wb) := by have := (unhide HG).wz; have := (unhide H4).zs; unfold Hid; omega
    go_wp2_with fail
    by_cases hmn : (p : Int) < wr
    · have hmin : Hid (min wr (p : Int) = (p : Int)) := by unfold Hid; omega
      have hSt : Fr (fun k => k = wb) W4 ((W4.setCell ⟨wb, 8, none⟩ (.int .i64 (p : Int))).drew) := ((Fr.refl (fun k => k = wb) W4).setCell ⟨wb, 8, none⟩ (.inr rfl) _).drew
      refine wp_region_held_drew (S := (fun wx => Fr (fun k => k = wb) W4 wx)) (by kernel_rfl) ((Fr.refl _ W4).drew) (fun hHeld => ?_)
      refine wpAnyH_take (i := 0) (oi := _) (v := .pointer (some ⟨wb, 0, none⟩)) rfl (by kernel_rfl) (by kernel_rfl) (by kernel_rfl) (fun _ _ _ h => h) (Or.inl ⟨by rfl, (by intro w hSw; go_simp)⟩) (by assumption) ?_
      go_simp
      refine wpAnyH_take (i := 1) (oi := _) (v := .pointer (some ⟨wb, 0, none⟩)) rfl (by kernel_rfl) (by kernel_rfl) (by kernel_rfl) (fun _ _ _ h => h) (Or.inl ⟨by rfl, (by intro w hSw; go_simp)⟩) (by assumption) ?_
      go_simp
      refine wpAnyH_take (i := 2) (oi := _) (v := .pointer (some ⟨wb, 0, none⟩)) rfl (by kernel_rfl) (by kernel_rfl) (by kernel_rfl) (fun _ _ _ h => h) (Or.inl ⟨by rfl, (by intro w hSw; go_simp)⟩) (by assumption) ?_
      go_simp
      refine wpAnyH_take (i := 3) (oi := _) (v := .pointer (some ⟨wb, 8, none⟩)) rfl (by kernel_rfl) (by kernel_rfl) (by kernel_rfl) (fun _ _ _ h => h) (Or.inl ⟨by rfl, (by intro w hSw; go_simp)⟩) (by assumption) ?_
      go_simp
      refine wpAnyH_take (i := 5) (oi := _) (v := .pointer (some ⟨X.heap.size, 0, none⟩)) rfl (by kernel_rfl) (by kernel_rfl) (by kernel_rfl) (fun _ _ _ h => h) (Or.inl ⟨by rfl, (by intro w hSw; go_simp)⟩) (by assumption) ?_
      go_simp
      refine wpAnyH_take (i := 6) (oi := _) (v := .int .i64 (p : Int)) rfl (by kernel_rfl) (by kernel_rfl) (by kernel_rfl) (fun _ _ _ h => h) (Or.inl ⟨by rfl, (by intro w hSw; have q0 := (hSw.cell (a := ⟨X.heap.size, 0, none⟩) ls8 (fun e => unhide hsw e)).trans d0; go_simp)⟩) (by assumption) ?_
      go_simp
      refine wpAnyH_ready (rs := [4]) (by kernel_rfl) (by simp) ?_
      refine AllReadyH.cons (o := _) rfl (fun K hK => ?_) AllReadyH.nil
      go_simp
      refine hK.out _ _ (hHeld) (fun hHeld4x => ?_)
      clear hK K
      go_simp
      refine wpAnyH_take (i := 7) (oi := _) (v := .int .i64 (p : Int)) rfl (by kernel_rfl) (by kernel_rfl) (by kernel_rfl) (fun _ _ _ h => h) (Or.inl ⟨by rfl, (by intro w hSw; go_simp)⟩) (by assumption) ?_
      go_simp
      refine wpAnyH_take (i := 8) (oi := _) (v := .pointer (some ⟨wb, 0, none⟩)) rfl (by kernel_rfl) (by kernel_rfl) (by kernel_rfl) (fun _ _ _ h => h) (Or.inl ⟨by rfl, (by intro w hSw; go_simp)⟩) (by assumption) ?_
      go_simp
      refine wpAnyH_take (i := 9) (oi := _) (v := .pointer (some ⟨wb, 8, none⟩)) rfl (by kernel_rfl) (by kernel_rfl) (by kernel_rfl) (fun _ _ _ h => h) (Or.inl ⟨by rfl, (by intro w hSw; go_simp)⟩) (by assumption) ?_
      go_simp
      refine wpAnyH_ready (rs := [10]) (by kernel_rfl) (by simp) ?_
      refine AllReadyH.cons (o := _) rfl (fun K hK => ?_) AllReadyH.nil
      go_simp
      refine hK.out _ _ (hSt) (fun hHeld10x => ?_)
      clear hK K
      go_simp
      refine wpAnyH_done (by kernel_rfl) ?_ _
      have HW4 := hide (((unhide H4).put (unhide HG) (p : Int)).keep (unhide HG) (Fr.refl (fun _ => False) _).drew (fun _ _ e => e))
      have HWR : Hid (nwr wr p ht hv fv op a = (p : Int)) := by
        unfold Hid nwr
        rw [unhide hT, unhide hU, if_pos (.inl hA), unhide hmin]
      clear d8 d0 fz8 hHeld lw8 ls8 H4
      obtain ⟨W, eW⟩ : ∃ W, W = (W4.setCell ⟨wb, 8, none⟩ (.int .i64 (p : Int))).drew := ⟨_, rfl⟩
      have HW : Hid (GS w0 Z wb fb hb x f fl X lv X.heap.size ib (p : Int) ht op a iv lv idle hts (p : Int) met left W) := by rw [eW]; exact HW4
      try rw [← eW]
      clear eW HW4
      by_cases hk0 : kp < 0
      · have HNX : Hid (nx f.code.length op a p ht = []) := by
          unfold Hid nx
          rw [unhide hT, if_pos (.inl (by have := unhide hkb; omega))]
        go_wp2_with fail
        (try simp only [Exit.inBlock, Exit.then])
        refine bodyPost_ret (results_none rfl _ _ _) rfl ?_
        exact ⟨⟨_, rfl⟩, _, by rw [unhide HWR, unhide HNX]; exact (unhide HW).st, (unhide HW).fr, (unhide HW).nw⟩
      · by_cases hk1 : 64 < af
        · have HNX : Hid (nx f.code.length op a p ht = []) := by
            unfold Hid nx
            rw [unhide hT, unhide hU, if_pos (.inr (by have := unhide hkb; omega))]
          go_wp2_with fail
          (try simp only [Exit.inBlock, Exit.then])
          refine bodyPost_ret (results_none rfl _ _ _) rfl ?_
          exact ⟨⟨_, rfl⟩, _, by rw [unhide HWR, unhide HNX]; exact (unhide HW).st, (unhide HW).fr, (unhide HW).nw⟩
        · have i0 := (unhide HW).i0
          have li0 := World.block_lt_of_cell? _ _ i0
          have HC0 := hide (jumps_any W op)
          rw [unhide hJ] at HC0
          go_wp2_with fail
          refine (unhide HC0).mono ?_
          rintro e W5 ⟨rfl, hb5⟩
          have H5 := hide ((unhide HW).keep (unhide HG) (Fr.of_below (S := fun _ => False) hb5) (fun _ _ e => e))
          clear hb5 HC0 i0 li0
          cases hjm : jm with
          | true =>
            subst hjm
            have j1 := (unhide H5).i1
            have lj1 := World.block_lt_of_cell? _ _ j1
            have hja' := unhide hJA (unhide hJ)
            have HC := hide (meet_any a af (OkS.of (by omega) (by omega) (by omega) (by omega)) (unhide H5).st.ml (by omega) (by omega))
            go_wp2_with fail
            refine (unhide HC).mono ?_
            rintro e W6 ⟨⟨_, rfl⟩, lv6, hM6, hF6, hN6⟩
            have H6 := hide ((unhide H5).meet (unhide HG) hM6 hF6 hN6)
            have HLN : Hid ((mtM met (a, af)).length ≤ met.length + 1 ∧ (mtL met left (a, af)).length ≤ left.length + 1 ∧ left.length < 100000000 ∧ met.length < 100000000) := ⟨mtM_length _ _, mtL_length _ _ _, hl, hm⟩
            clear hM6 hF6 hN6 HC j1 lj1 hja'
            have e0 := (unhide H6).i0
            have e1 := (unhide H6).s0
            have e2 := (unhide H6).st.cell (j := 3) rfl
            rw [ev, unhide hN] at e2
            have le0 := World.block_lt_of_cell? _ _ e0
            have le1 := World.block_lt_of_cell? _ _ e1
            have le2 := World.block_lt_of_cell? _ _ e2
            have hpw : IntKind.i64.wrap ((p : Int) + 1) = (p : Int) + 1 := by rw [IntKind.wrap_i64]; omega
            cases hen : en with
            | true =>
              subst hen
              have HNX : Hid (nx f.code.length op a p ht = [(a, af)]) := by
                unfold Hid nx
                rw [unhide hT, unhide hU, unhide hAF, if_neg (by have := unhide hkb; omega), unhide hJ, unhide hE]
                simp
              go_wp2_with fail
              go_quiet (first | (go_at_call 107; exact Calls.quiet_of_same (unhide HE _)))
              go_wp2_with fail
              go_end0
              exact ⟨⟨_, rfl⟩, _, by rw [unhide HWR, unhide HNX]; exact ((unhide H6).keep (unhide HG) (Fr.drewN (S := fun _ => False) nq) (fun _ _ e => e)).st, ((unhide H6).keep (unhide HG) (Fr.drewN (S := fun _ => False) nq) (fun _ _ e => e)).fr, (unhide H6).nw⟩
            | false =>
              subst hen
              by_cases hp1 : p + 1 < N
              · have HNX : Hid (nx f.code.length op a p ht = [(a, af)] ++ [((p : Int) + 1, af)]) := by
                  unfold Hid nx
                  rw [unhide hT, unhide hU, unhide hAF, if_neg (by have := unhide hkb; omega), unhide hJ, unhide hE, unhide hN, if_pos (c := _ ∧ _) ⟨by decide, hp1⟩]
                  simp
                have hp2 : (p : Int) + 1 < (N : Int) := by omega
                go_wp2_with fail
                go_quiet (first | (go_at_call 107; exact Calls.quiet_of_same (unhide HE _)))
                have hGd := (unhide H6).keep (unhide HG) (Fr.drewN (S := fun _ => False) nq) (fun _ _ e => e)
                have HC := hide (meet_any ((p : Int) + 1) af (OkS.of (by omega) (by omega) (by omega) (by omega)) hGd.st.ml (by have := unhide HLN; omega) (by have := unhide HLN; omega))
                have HGd := hide hGd
                clear hGd
                obtain ⟨W7, eW7⟩ : ∃ W7, W7 = W6.drewN nq := ⟨_, rfl⟩
                rw [← eW7] at HC HGd
                rw [← eW7]
                clear eW7
                have e1 := (unhide HGd).s0
                have le1 := World.block_lt_of_cell? _ _ e1
                go_wp2_with fail
                refine (unhide HC).mono ?_
                rintro e Wl ⟨⟨_, rfl⟩, lv9, hM9, hF9, hN9⟩
                have HL := hide ((unhide HGd).meet (unhide HG) hM9 hF9 hN9)
                clear hM9 hF9 hN9
                go_wp2_with fail
                go_end0
                exact ⟨⟨_, rfl⟩, _, by rw [unhide HWR, unhide HNX]; exact (unhide HL).st, (unhide HL).fr, (unhide HL).nw⟩
              · have HNX : Hid (nx f.code.length op a p ht = [(a, af)]) := by
                  unfold Hid nx
                  rw [unhide hT, unhide hU, unhide hAF, if_neg (by have := unhide hkb; omega), unhide hJ, unhide hE, unhide hN, if_neg (c := _ ∧ _) (fun q => hp1 q.2)]
                  simp
                have hp2 : ¬ (p : Int) + 1 < (N : Int) := by omega
                go_wp2_with fail
                go_quiet (first | (go_at_call 107; exact Calls.quiet_of_same (unhide HE _)))
                go_wp2_with fail
                go_end0
                exact ⟨⟨_, rfl⟩, _, by rw [unhide HWR, unhide HNX]; exact ((unhide H6).keep (unhide HG) (Fr.drewN (S := fun _ => False) nq) (fun _ _ e => e)).st, ((unhide H6).keep (unhide HG) (Fr.drewN (S := fun _ => False) nq) (fun _ _ e => e)).fr, (unhide H6).nw⟩

          | false =>
            subst hjm
            have HLN : Hid (left.length < 100000000 ∧ met.length < 100000000) := ⟨hl, hm⟩
            have e0 := (unhide H5).i0
            have e1 := (unhide H5).s0
            have e2 := (unhide H5).st.cell (j := 3) rfl
            rw [ev, unhide hN] at e2
            have le0 := World.block_lt_of_cell? _ _ e0
            have le1 := World.block_lt_of_cell? _ _ e1
            have le2 := World.block_lt_of_cell? _ _ e2
            have hpw : IntKind.i64.wrap ((p : Int) + 1) = (p : Int) + 1 := by rw [IntKind.wrap_i64]; omega
            cases hen : en with
            | true =>
              subst hen
              have HNX : Hid (nx f.code.length op a p ht = []) := by
                unfold Hid nx
                rw [unhide hT, unhide hU, unhide hAF, if_neg (by have := unhide hkb; omega), unhide hJ, unhide hE]
                simp
              go_wp2_with fail
              go_quiet (first | (go_at_call 107; exact Calls.quiet_of_same (unhide HE _)))
              go_wp2_with fail
              go_end0
              exact ⟨⟨_, rfl⟩, _, by rw [unhide HWR, unhide HNX]; exact ((unhide H5).keep (unhide HG) (Fr.drewN (S := fun _ => False) nq) (fun _ _ e => e)).st, ((unhide H5).keep (unhide HG) (Fr.drewN (S := fun _ => False) nq) (fun _ _ e => e)).fr, (unhide H5).nw⟩
            | false =>
              subst hen
              by_cases hp1 : p + 1 < N
              · have HNX : Hid (nx f.code.length op a p ht = [] ++ [((p : Int) + 1, af)]) := by
                  unfold Hid nx
                  rw [unhide hT, unhide hU, unhide hAF, if_neg (by have := unhide hkb; omega), unhide hJ, unhide hE, unhide hN, if_pos (c := _ ∧ _) ⟨by decide, hp1⟩]
                  simp
                have hp2 : (p : Int) + 1 < (N : Int) := by omega
                go_wp2_with fail
                go_quiet (first | (go_at_call 107; exact Calls.quiet_of_same (unhide HE _)))
                have hGd := (unhide H5).keep (unhide HG) (Fr.drewN (S := fun _ => False) nq) (fun _ _ e => e)
                have HC := hide (meet_any ((p : Int) + 1) af (OkS.of (by omega) (by omega) (by omega) (by omega)) hGd.st.ml (by have := unhide HLN; omega) (by have := unhide HLN; omega))
                have HGd := hide hGd
                clear hGd
                obtain ⟨W7, eW7⟩ : ∃ W7, W7 = W5.drewN nq := ⟨_, rfl⟩
                rw [← eW7] at HC HGd
                rw [← eW7]
                clear eW7
                have e1 := (unhide HGd).s0
                have le1 := World.block_lt_of_cell? _ _ e1
                go_wp2_with fail
                refine (unhide HC).mono ?_
                rintro e Wl ⟨⟨_, rfl⟩, lv9, hM9, hF9, hN9⟩
                have HL := hide ((unhide HGd).meet (unhide HG) hM9 hF9 hN9)
                clear hM9 hF9 hN9
                go_wp2_with fail
                go_end0
                exact ⟨⟨_, rfl⟩, _, by rw [unhide HWR, unhide HNX]; exact (unhide HL).st, (unhide HL).fr, (unhide HL).nw⟩
              · have HNX : Hid (nx f.code.length op a p ht = []) := by
                  unfold Hid nx
                  rw [unhide hT, unhide hU, unhide hAF, if_neg (by have := unhide hkb; omega), unhide hJ, unhide hE, unhide hN, if_neg (c := _ ∧ _) (fun q => hp1 q.2)]
                  simp
                have hp2 : ¬ (p : Int) + 1 < (N : Int) := by omega
                go_wp2_with fail
                go_quiet (first | (go_at_call 107; exact Calls.quiet_of_same (unhide HE _)))
                go_wp2_with fail
                go_end0
                exact ⟨⟨_, rfl⟩, _, by rw [unhide HWR, unhide HNX]; exact ((unhide H5).keep (unhide HG) (Fr.drewN (S := fun _ => False) nq) (fun _ _ e => e)).st, ((unhide H5).keep (unhide HG) (Fr.drewN (S := fun _ => False) nq) (fun _ _ e => e)).fr, (unhide H5).nw⟩


    · have hmin : Hid (min wr (p : Int) = wr) := by unfold Hid; omega
      have hSt : Fr (fun k => k = wb) W4 ((W4.setCell ⟨wb, 8, none⟩ (.int .i64 wr)).drew) := ((Fr.refl (fun k => k = wb) W4).setCell ⟨wb, 8, none⟩ (.inr rfl) _).drew
      refine wp_region_held_drew (S := (fun wx => Fr (fun k => k = wb) W4 wx)) (by kernel_rfl) ((Fr.refl _ W4).drew) (fun hHeld => ?_)
      refine wpAnyH_take (i := 0) (oi := _) (v := .pointer (some ⟨wb, 0, none⟩)) rfl (by kernel_rfl) (by kernel_rfl) (by kernel_rfl) (fun _ _ _ h => h) (Or.inl ⟨by rfl, (by intro w hSw; go_simp)⟩) (by assumption) ?_
      go_simp
      refine wpAnyH_take (i := 1) (oi := _) (v := .pointer (some ⟨wb, 0, none⟩)) rfl (by kernel_rfl) (by kernel_rfl) (by kernel_rfl) (fun _ _ _ h => h) (Or.inl ⟨by rfl, (by intro w hSw; go_simp)⟩) (by assumption) ?_
      go_simp
      refine wpAnyH_take (i := 2) (oi := _) (v := .pointer (some ⟨wb, 0, none⟩)) rfl (by kernel_rfl) (by kernel_rfl) (by kernel_rfl) (fun _ _ _ h => h) (Or.inl ⟨by rfl, (by intro w hSw; go_simp)⟩) (by assumption) ?_
      go_simp
      refine wpAnyH_take (i := 3) (oi := _) (v := .pointer (some ⟨wb, 8, none⟩)) rfl (by kernel_rfl) (by kernel_rfl) (by kernel_rfl) (fun _ _ _ h => h) (Or.inl ⟨by rfl, (by intro w hSw; go_simp)⟩) (by assumption) ?_
      go_simp
      refine wpAnyH_take (i := 5) (oi := _) (v := .pointer (some ⟨X.heap.size, 0, none⟩)) rfl (by kernel_rfl) (by kernel_rfl) (by kernel_rfl) (fun _ _ _ h => h) (Or.inl ⟨by rfl, (by intro w hSw; go_simp)⟩) (by assumption) ?_
      go_simp
      refine wpAnyH_take (i := 6) (oi := _) (v := .int .i64 (p : Int)) rfl (by kernel_rfl) (by kernel_rfl) (by kernel_rfl) (fun _ _ _ h => h) (Or.inl ⟨by rfl, (by intro w hSw; have q0 := (hSw.cell (a := ⟨X.heap.size, 0, none⟩) ls8 (fun e => unhide hsw e)).trans d0; go_simp)⟩) (by assumption) ?_
      go_simp
      refine wpAnyH_ready (rs := [4]) (by kernel_rfl) (by simp) ?_
      refine AllReadyH.cons (o := _) rfl (fun K hK => ?_) AllReadyH.nil
      go_simp
      refine hK.out _ _ (hHeld) (fun hHeld4x => ?_)
      clear hK K
      go_simp
      refine wpAnyH_take (i := 7) (oi := _) (v := .int .i64 wr) rfl (by kernel_rfl) (by kernel_rfl) (by kernel_rfl) (fun _ _ _ h => h) (Or.inl ⟨by rfl, (by intro w hSw; go_simp)⟩) (by assumption) ?_
      go_simp
      refine wpAnyH_take (i := 8) (oi := _) (v := .pointer (some ⟨wb, 0, none⟩)) rfl (by kernel_rfl) (by kernel_rfl) (by kernel_rfl) (fun _ _ _ h => h) (Or.inl ⟨by rfl, (by intro w hSw; go_simp)⟩) (by assumption) ?_
      go_simp
      refine wpAnyH_take (i := 9) (oi := _) (v := .pointer (some ⟨wb, 8, none⟩)) rfl (by kernel_rfl) (by kernel_rfl) (by kernel_rfl) (fun _ _ _ h => h) (Or.inl ⟨by rfl, (by intro w hSw; go_simp)⟩) (by assumption) ?_
      go_simp
      refine wpAnyH_ready (rs := [10]) (by kernel_rfl) (by simp) ?_
      refine AllReadyH.cons (o := _) rfl (fun K hK => ?_) AllReadyH.nil
      go_simp
      refine hK.out _ _ (hSt) (fun hHeld10x => ?_)
      clear hK K
      go_simp
      refine wpAnyH_done (by kernel_rfl) ?_ _
      have HW4 := hide (((unhide H4).put (unhide HG) wr).keep (unhide HG) (Fr.refl (fun _ => False) _).drew (fun _ _ e => e))
      have HWR : Hid (nwr wr p ht hv fv op a = wr) := by
        unfold Hid nwr
        rw [unhide hT, unhide hU, if_pos (.inl hA), unhide hmin]
      clear d8 d0 fz8 hHeld lw8 ls8 H4
      obtain ⟨W, eW⟩ : ∃ W, W = (W4.setCell ⟨wb, 8, none⟩ (.int .i64 wr)).drew := ⟨_, rfl⟩
      have HW : Hid (GS w0 Z wb fb hb x f fl X lv X.heap.size ib (p : Int) ht op a iv lv idle hts wr met left W) := by rw [eW]; exact HW4
      try rw [← eW]
      clear eW HW4
      by_cases hk0 : kp < 0
      · have HNX : Hid (nx f.code.length op a p ht = []) := by
          unfold Hid nx
          rw [unhide hT, if_pos (.inl (by have := unhide hkb; omega))]
        go_wp2_with fail
        (try simp only [Exit.inBlock, Exit.then])
        refine bodyPost_ret (results_none rfl _ _ _) rfl ?_
        exact ⟨⟨_, rfl⟩, _, by rw [unhide HWR, unhide HNX]; exact (unhide HW).st, (unhide HW).fr, (unhide HW).nw⟩
      · by_cases hk1 : 64 < af
        · have HNX : Hid (nx f.code.length op a p ht = []) := by
            unfold Hid nx
            rw [unhide hT, unhide hU, if_pos (.inr (by have := unhide hkb; omega))]
          go_wp2_with fail
          (try simp only [Exit.inBlock, Exit.then])
          refine bodyPost_ret (results_none rfl _ _ _) rfl ?_
          exact ⟨⟨_, rfl⟩, _, by rw [unhide HWR, unhide HNX]; exact (unhide HW).st, (unhide HW).fr, (unhide HW).nw⟩
        · have i0 := (unhide HW).i0
          have li0 := World.block_lt_of_cell? _ _ i0
          have HC0 := hide (jumps_any W op)
          rw [unhide hJ] at HC0
          go_wp2_with fail
          refine (unhide HC0).mono ?_
          rintro e W5 ⟨rfl, hb5⟩
          have H5 := hide ((unhide HW).keep (unhide HG) (Fr.of_below (S := fun _ => False) hb5) (fun _ _ e => e))
          clear hb5 HC0 i0 li0
          cases hjm : jm with
          | true =>
            subst hjm
            have j1 := (unhide H5).i1
            have lj1 := World.block_lt_of_cell? _ _ j1
            have hja' := unhide hJA (unhide hJ)
            have HC := hide (meet_any a af (OkS.of (by omega) (by omega) (by omega) (by omega)) (unhide H5).st.ml (by omega) (by omega))
            go_wp2_with fail
            refine (unhide HC).mono ?_
            rintro e W6 ⟨⟨_, rfl⟩, lv6, hM6, hF6, hN6⟩
            have H6 := hide ((unhide H5).meet (unhide HG) hM6 hF6 hN6)
            have HLN : Hid ((mtM met (a, af)).length ≤ met.length + 1 ∧ (mtL met left (a, af)).length ≤ left.length + 1 ∧ left.length < 100000000 ∧ met.length < 100000000) := ⟨mtM_length _ _, mtL_length _ _ _, hl, hm⟩
            clear hM6 hF6 hN6 HC j1 lj1 hja'
            have e0 := (unhide H6).i0
            have e1 := (unhide H6).s0
            have e2 := (unhide H6).st.cell (j := 3) rfl
            rw [ev, unhide hN] at e2
            have le0 := World.block_lt_of_cell? _ _ e0
            have le1 := World.block_lt_of_cell? _ _ e1
            have le2 := World.block_lt_of_cell? _ _ e2
            have hpw : IntKind.i64.wrap ((p : Int) + 1) = (p : Int) + 1 := by rw [IntKind.wrap_i64]; omega
            cases hen : en with
            | true =>
              subst hen
              have HNX : Hid (nx f.code.length op a p ht = [(a, af)]) := by
                unfold Hid nx
                rw [unhide hT, unhide hU, unhide hAF, if_neg (by have := unhide hkb; omega), unhide hJ, unhide hE]
                simp
              go_wp2_with fail
              go_quiet (first | (go_at_call 107; exact Calls.quiet_of_same (unhide HE _)))
              go_wp2_with fail
              go_end0
              exact ⟨⟨_, rfl⟩, _, by rw [unhide HWR, unhide HNX]; exact ((unhide H6).keep (unhide HG) (Fr.drewN (S := fun _ => False) nq) (fun _ _ e => e)).st, ((unhide H6).keep (unhide HG) (Fr.drewN (S := fun _ => False) nq) (fun _ _ e => e)).fr, (unhide H6).nw⟩
            | false =>
              subst hen
              by_cases hp1 : p + 1 < N
              · have HNX : Hid (nx f.code.length op a p ht = [(a, af)] ++ [((p : Int) + 1, af)]) := by
                  unfold Hid nx
                  rw [unhide hT, unhide hU, unhide hAF, if_neg (by have := unhide hkb; omega), unhide hJ, unhide hE, unhide hN, if_pos (c := _ ∧ _) ⟨by decide, hp1⟩]
                  simp
                have hp2 : (p : Int) + 1 < (N : Int) := by omega
                go_wp2_with fail
                go_quiet (first | (go_at_call 107; exact Calls.quiet_of_same (unhide HE _)))
                have hGd := (unhide H6).keep (unhide HG) (Fr.drewN (S := fun _ => False) nq) (fun _ _ e => e)
                have HC := hide (meet_any ((p : Int) + 1) af (OkS.of (by omega) (by omega) (by omega) (by omega)) hGd.st.ml (by have := unhide HLN; omega) (by have := unhide HLN; omega))
                have HGd := hide hGd
                clear hGd
                obtain ⟨W7, eW7⟩ : ∃ W7, W7 = W6.drewN nq := ⟨_, rfl⟩
                rw [← eW7] at HC HGd
                rw [← eW7]
                clear eW7
                have e1 := (unhide HGd).s0
                have le1 := World.block_lt_of_cell? _ _ e1
                go_wp2_with fail
                refine (unhide HC).mono ?_
                rintro e Wl ⟨⟨_, rfl⟩, lv9, hM9, hF9, hN9⟩
                have HL := hide ((unhide HGd).meet (unhide HG) hM9 hF9 hN9)
                clear hM9 hF9 hN9
                go_wp2_with fail
                go_end0
                exact ⟨⟨_, rfl⟩, _, by rw [unhide HWR, unhide HNX]; exact (unhide HL).st, (unhide HL).fr, (unhide HL).nw⟩
              · have HNX : Hid (nx f.code.length op a p ht = [(a, af)]) := by
                  unfold Hid nx
                  rw [unhide hT, unhide hU, unhide hAF, if_neg (by have := unhide hkb; omega), unhide hJ, unhide hE, unhide hN, if_neg (c := _ ∧ _) (fun q => hp1 q.2)]
                  simp
                have hp2 : ¬ (p : Int) + 1 < (N : Int) := by omega
                go_wp2_with fail
                go_quiet (first | (go_at_call 107; exact Calls.quiet_of_same (unhide HE _)))
                go_wp2_with fail
                go_end0
                exact ⟨⟨_, rfl⟩, _, by rw [unhide HWR, unhide HNX]; exact ((unhide H6).keep (unhide HG) (Fr.drewN (S := fun _ => False) nq) (fun _ _ e => e)).st, ((unhide H6).keep (unhide HG) (Fr.drewN (S := fun _ => False) nq) (fun _ _ e => e)).fr, (unhide H6).nw⟩

          | false =>
            subst hjm
            have HLN : Hid (left.length < 100000000 ∧ met.length < 100000000) := ⟨hl, hm⟩
            have e0 := (unhide H5).i0
            have e1 := (unhide H5).s0
            have e2 := (unhide H5).st.cell (j := 3) rfl
            rw [ev, unhide hN] at e2
            have le0 := World.block_lt_of_cell? _ _ e0
            have le1 := World.block_lt_of_cell? _ _ e1
            have le2 := World.block_lt_of_cell? _ _ e2
            have hpw : IntKind.i64.wrap ((p : Int) + 1) = (p : Int) + 1 := by rw [IntKind.wrap_i64]; omega
            cases hen : en with
            | true =>
              subst hen
              have HNX : Hid (nx f.code.length op a p ht = []) := by
                unfold Hid nx
                rw [unhide hT, unhide hU, unhide hAF, if_neg (by have := unhide hkb; omega), unhide hJ, unhide hE]
                simp
              go_wp2_with fail
              go_quiet (first | (go_at_call 107; exact Calls.quiet_of_same (unhide HE _)))
              go_wp2_with fail
              go_end0
              exact ⟨⟨_, rfl⟩, _, by rw [unhide HWR, unhide HNX]; exact ((unhide H5).keep (unhide HG) (Fr.drewN (S := fun _ => False) nq) (fun _ _ e => e)).st, ((unhide H5).keep (unhide HG) (Fr.drewN (S := fun _ => False) nq) (fun _ _ e => e)).fr, (unhide H5).nw⟩
            | false =>
              subst hen
              by_cases hp1 : p + 1 < N
              · have HNX : Hid (nx f.code.length op a p ht = [] ++ [((p : Int) + 1, af)]) := by
                  unfold Hid nx
                  rw [unhide hT, unhide hU, unhide hAF, if_neg (by have := unhide hkb; omega), unhide hJ, unhide hE, unhide hN, if_pos (c := _ ∧ _) ⟨by decide, hp1⟩]
                  simp
                have hp2 : (p : Int) + 1 < (N : Int) := by omega
                go_wp2_with fail
                go_quiet (first | (go_at_call 107; exact Calls.quiet_of_same (unhide HE _)))
                have hGd := (unhide H5).keep (unhide HG) (Fr.drewN (S := fun _ => False) nq) (fun _ _ e => e)
                have HC := hide (meet_any ((p : Int) + 1) af (OkS.of (by omega) (by omega) (by omega) (by omega)) hGd.st.ml (by have := unhide HLN; omega) (by have := unhide HLN; omega))
                have HGd := hide hGd
                clear hGd
                obtain ⟨W7, eW7⟩ : ∃ W7, W7 = W5.drewN nq := ⟨_, rfl⟩
                rw [← eW7] at HC HGd
                rw [← eW7]
                clear eW7
                have e1 := (unhide HGd).s0
                have le1 := World.block_lt_of_cell? _ _ e1
                go_wp2_with fail
                refine (unhide HC).mono ?_
                rintro e Wl ⟨⟨_, rfl⟩, lv9, hM9, hF9, hN9⟩
                have HL := hide ((unhide HGd).meet (unhide HG) hM9 hF9 hN9)
                clear hM9 hF9 hN9
                go_wp2_with fail
                go_end0
                exact ⟨⟨_, rfl⟩, _, by rw [unhide HWR, unhide HNX]; exact (unhide HL).st, (unhide HL).fr, (unhide HL).nw⟩
              · have HNX : Hid (nx f.code.length op a p ht = []) := by
                  unfold Hid nx
                  rw [unhide hT, unhide hU, unhide hAF, if_neg (by have := unhide hkb; omega), unhide hJ, unhide hE, unhide hN, if_neg (c := _ ∧ _) (fun q => hp1 q.2)]
                  simp
                have hp2 : ¬ (p : Int) + 1 < (N : Int) := by omega
                go_wp2_with fail
                go_quiet (first | (go_at_call 107; exact Calls.quiet_of_same (unhide HE _)))
                go_wp2_with fail
                go_end0
                exact ⟨⟨_, rfl⟩, _, by rw [unhide HWR, unhide HNX]; exact ((unhide H5).keep (unhide HG) (Fr.drewN (S := fun _ => False) nq) (fun _ _ e => e)).st, ((unhide H5).keep (unhide HG) (Fr.drewN (S := fun _ => False) nq) (fun _ _ e => e)).fr, (unhide H5).nw⟩



end Go.Proofs.YtlogmdldjmkkjaaGreatDoor
