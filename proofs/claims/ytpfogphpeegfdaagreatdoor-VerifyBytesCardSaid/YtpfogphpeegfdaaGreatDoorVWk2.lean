/-
  wake, over the walk's state.
-/
import Derived.Test.YtpfogphpeegfdaaGreatDoorVEff
namespace Go.Proofs.YtpfogphpeegfdaaGreatDoor
open Go.RowKit
set_option linter.unusedVariables false
set_option linter.unusedSimpArgs false
/-- What stays as it is all the while. -/
structure Bs (w0 : World) (Z wb fb hb : Nat) (x : Fv) (f : Fc) : Prop where
  wz : w0.heap.size ≤ wb ∧ wb < Z
  fz : w0.heap.size ≤ fb ∧ fb < Z
  hz : w0.heap.size ≤ hb ∧ hb < Z
  wf : wb ≠ fb
  wh : wb ≠ hb
  fh : fb ≠ hb
  co : FnV w0 f x
  n1 : 1 ≤ f.code.length
  nm : f.code.length ≤ 1048576
  hm : f.hs.length ≤ 1048576
  hk : ∀ h ∈ f.hs, OkH h
/-- The struct's cells. -/
def wkC (x : Fv) (fb hb N : Nat) (iv : Value) (wr : Int) : List Value :=
  [.string x.name, .int .i64 x.params, .int .i64 x.locals, x.cv, x.hv, .slice (some ⟨fb, 0, none⟩) N N, iv, .slice (some ⟨hb, 0, none⟩) N N, .int .i64 wr]
/-- The state. -/
structure St (w0 : World) (Z wb fb hb : Nat) (x : Fv) (f : Fc) (fl : List Int) (iv lv : Value) (idle : List Hd) (hts : List Int) (wr : Int) (met left : List Spot) (X : World) : Prop where
  wk : Ro X 9 (.slice (some ⟨wb, 0, none⟩) 1 1) 1 (wkC x fb hb f.code.length iv wr)
  fo : Ro X 1 (.slice (some ⟨fb, 0, none⟩) f.code.length f.code.length) f.code.length (flt enN fl)
  ho : Ro X 1 (.slice (some ⟨hb, 0, none⟩) f.code.length f.code.length) f.code.length (flt enN hts)
  io : Ro X 4 iv idle.length (flt enH idle)
  ml : ML X Z met left lv
  iz : ∀ k, iv.ownBlock = some k → w0.heap.size ≤ k ∧ k < Z ∧ k ≠ wb ∧ k ≠ fb ∧ k ≠ hb
  bl : Below w0.heap.size w0 X
  is : ∀ h ∈ idle, h ∈ f.hs
  il : idle.length ≤ f.hs.length
/-- What a step of the walk may turn. -/
def stS (Z : Nat) (lv : Value) (k : Nat) : Prop := k < Z ∨ mtS Z lv k
theorem ML.ge {X : World} {Z : Nat} {met left : List Spot} {lv : Value} (h : ML X Z met left lv) {k : Nat} (e : mtS Z lv k) : Z ≤ k := by
  rcases e with e | e | e
  · omega
  · omega
  · have := h.own k e; omega
theorem ML.lt {X : World} {Z : Nat} {met left : List Spot} {lv : Value} (h : ML X Z met left lv) {k : Nat} (e : mtS Z lv k) : k < X.heap.size := by
  have := h.bl.lt
  rcases e with e | e | e
  · omega
  · omega
  · exact h.lf.lt k e
section
variable {w0 X Y : World} {Z wb fb hb : Nat} {x : Fv} {f : Fc} {fl : List Int} {iv lv : Value} {idle : List Hd} {hts : List Int} {wr : Int} {met left : List Spot}
/-- Nothing of it is turned. -/
theorem St.keep {S : Nat → Prop} (h : St w0 Z wb fb hb x f fl iv lv idle hts wr met left X) (g : Bs w0 Z wb fb hb x f) (fr : Fr S X Y) (hS : ∀ k, k < X.heap.size → ¬ S k) : St w0 Z wb fb hb x f fl iv lv idle hts wr met left Y := by
  have own : ∀ {v : Value} {sz n xs}, Ro X sz v n xs → Ro Y sz v n xs := fun r => r.fr fr (fun k hk => hS k (r.lt k hk))
  have hz := h.ml.bl.lt
  exact ⟨own h.wk, own h.fo, own h.ho, own h.io, h.ml.keep fr (hS _ (by omega)) (hS _ (by omega)) (hS _ (by omega)) (fun k hk => hS k (h.ml.lf.lt k hk)), h.iz, h.bl.trans (fr.below (by have := h.bl.size; omega) (fun k hk => hS k (by have := h.bl.size; omega))), h.is, h.il⟩
/-- A cell of the struct. -/
theorem St.cell (h : St w0 Z wb fb hb x f fl iv lv idle hts wr met left X) {j : Nat} {v : Value} (hv : (wkC x fb hb f.code.length iv wr)[j]? = some v) : X.cell? ⟨wb, j, none⟩ = some v := by
  obtain ⟨b', off', c', e, _, _, hb, hc⟩ := h.wk.full (by omega)
  cases e
  have hj := (List.getElem?_eq_some_iff.1 hv).1
  have := hc j (by simp [wkC] at hj; omega)
  rw [Nat.zero_add] at this
  rw [this, hv]
theorem St.free (h : St w0 Z wb fb hb x f fl iv lv idle hts wr met left X) (j : Nat) : X.frozen? ⟨wb, j, none⟩ = false := h.wk.free rfl j
theorem St.wlt (h : St w0 Z wb fb hb x f fl iv lv idle hts wr met left X) : wb < X.heap.size := World.block_lt_of_cell? _ _ (h.cell (j := 0) rfl)
/-- meet was called. -/
theorem St.mets {met2 left2 : List Spot} {lv2 : Value} (h : St w0 Z wb fb hb x f fl iv lv idle hts wr met left X) (g : Bs w0 Z wb fb hb x f) (hM : ML Y Z met2 left2 lv2) (fr : Fr (mtS Z lv) X Y) : St w0 Z wb fb hb x f fl iv lv2 idle hts wr met2 left2 Y := by
  have no : ∀ k, k < Z → ¬ mtS Z lv k := fun k hk e => by have := h.ml.ge e; omega
  have hz := h.ml.bl.lt
  have g1 := g.wz; have g2 := g.fz; have g3 := g.hz
  refine ⟨h.wk.fr fr (fun k hk => no k ?_), h.fo.fr fr (fun k hk => no k ?_), h.ho.fr fr (fun k hk => no k ?_), h.io.fr fr (fun k hk => no k (h.iz k hk).2.1), hM, h.iz, h.bl.trans (fr.below h.bl.size (fun k hk => no k (by omega))), h.is, h.il⟩
  all_goals
    simp [Value.ownBlock] at hk
    omega
/-- A cell of the struct is written. -/
theorem St.put {iv2 : Value} {wr2 : Int} {j : Nat} {v : Value} (h : Ro X 9 (.slice (some ⟨wb, 0, none⟩) 1 1) 1 (wkC x fb hb f.code.length iv wr)) (he : (wkC x fb hb f.code.length iv wr).set j v = wkC x fb hb f.code.length iv2 wr2) (hj : j < 9) :
    Ro (X.setCell ⟨wb, j, none⟩ v) 9 (.slice (some ⟨wb, 0, none⟩) 1 1) 1 (wkC x fb hb f.code.length iv2 wr2) := by
  refine (h.sets rfl (o := 0 + j) (m := 1) (vs := [v]) (ys := wkC x fb hb f.code.length iv2 wr2) (by omega) (by simp; omega) (by omega) rfl (fun i hi => ?_) (fun i hi q => by omega)).1 |> fun r => by simpa [World.setCells] using r
  rw [← he]
  by_cases q : i = j
  · subst q
    rw [if_pos (by simp), List.getElem?_set_self (by simp [wkC]; omega)]
    simp
  · rw [if_neg (by simp; omega), List.getElem?_set_ne (by omega)]
end

set_option linter.unusedVariables false
set_option linter.unusedSimpArgs false
section
variable {w0 X Y : World} {Z wb fb hb : Nat} {x : Fv} {f : Fc} {fl : List Int} {iv lv : Value} {idle : List Hd} {hts : List Int} {wr : Int} {met left : List Spot}
theorem Fr.cellset {S : Nat → Prop} {w w' : World} (h : Fr S w w') (b j : Nat) (v : Value) (hb : S b) : Fr S w (w'.setCell ⟨b, j, none⟩ v) := h.setCell ⟨b, j, none⟩ (.inr hb) v
/-- DeleteFunc was called. -/
theorem St.del {pb qb : Nat} {pc : Int} {iv2 lv2 : Value} {X3 : World} (h : St w0 Z wb fb hb x f fl iv lv idle hts wr met left X) (g : Bs w0 Z wb fb hb x f) (D : DlR X Z pb qb pc idle (met, left) lv iv iv2 lv2 X3) :
    St w0 Z wb fb hb x f fl iv2 lv2 (idl pc idle) hts wr (wkF pc idle (met, left)).1 (wkF pc idle (met, left)).2 (X3.setCell ⟨wb, 6, none⟩ iv2) ∧ Fr (stS Z lv) X (X3.setCell ⟨wb, 6, none⟩ iv2) ∧ nwL X lv lv2 := by
  have no : ∀ k, k < Z → ¬ mtS Z lv k := fun k hk e => by have := h.ml.ge e; omega
  have hz := h.ml.bl.lt
  have hz3 := D.ml.bl.lt
  have g1 := g.wz; have g2 := g.fz; have g3 := g.hz; have g4 := g.wf; have g5 := g.wh; have g6 := g.fh
  have hS : ∀ k, k < Z → iv.ownBlock ≠ some k → ¬ (mtS Z lv k ∨ iv.ownBlock = some k) := fun k hk hi e => e.elim (no k hk) hi
  have ni : ∀ k, k = wb ∨ k = fb ∨ k = hb → iv.ownBlock ≠ some k := fun k hk e => by have := h.iz k e; omega
  have wk1 : Ro X3 9 (.slice (some ⟨wb, 0, none⟩) 1 1) 1 (wkC x fb hb f.code.length iv wr) := h.wk.fr D.fr (fun k hk => by
    simp [Value.ownBlock] at hk; exact hS k (by omega) (ni k (by omega)))
  have fo1 := h.fo.fr D.fr (fun k hk => by simp [Value.ownBlock] at hk; exact hS k (by omega) (ni k (by omega)))
  have ho1 := h.ho.fr D.fr (fun k hk => by simp [Value.ownBlock] at hk; exact hS k (by omega) (ni k (by omega)))
  have fs : Fr (fun k => k = wb) X3 (X3.setCell ⟨wb, 6, none⟩ iv2) := (Fr.refl _ X3).cellset wb 6 iv2 rfl
  refine ⟨⟨St.put wk1 rfl (by omega), fo1.fr fs (fun k hk => by simp [Value.ownBlock] at hk; omega), ho1.fr fs (fun k hk => by simp [Value.ownBlock] at hk; omega), D.ro.fr fs (fun k hk => ?_), ?_, fun k hk => h.iz k (by rw [← D.io]; exact hk), ?_, fun y hy => h.is y ((List.mem_filter.1 hy).1), Nat.le_trans (List.length_filter_le _ _) h.il⟩, ?_, D.nw⟩
  · have := h.iz k (by rw [← D.io]; exact hk)
    omega
  · refine D.ml.keep fs (by omega) (by omega) (by omega) (fun k hk => ?_)
    have := D.ml.own k hk
    omega
  · refine (h.bl.trans (D.fr.below h.bl.size (fun k hk => hS k (by omega) (fun e => ?_)))).trans (fs.below ?_ (fun k hk => by omega))
    · have := (h.iz k e).1; omega
    · have := D.fr.size; have := h.bl.size; omega
  · refine (D.fr.mono (T := stS Z lv) (fun k hk e => ?_)).cellset wb 6 iv2 (.inl g1.2)
    exact e.elim .inr (fun e => .inl (h.iz k e).2.1)
end
set_option maxRecDepth 100000 in
set_option maxHeartbeats 3200000 in
theorem wake_any {w0 X : World} {Z wb fb hb : Nat} {x : Fv} {f : Fc} {fl : List Int} {iv lv : Value} {idle : List Hd} {hts : List Int} {wr : Int} {met left : List Spot} (pc : Int) (g : Bs w0 Z wb fb hb x f) (h : St w0 Z wb fb hb x f fl iv lv idle hts wr met left X) (hl : left.length < 100000000) (hm : met.length < 100000000) :
    Calls Tryz.prog 75 #[.pointer (some ⟨wb, 0, none⟩), .int .i64 pc, fM Z] X fun e X' => (∃ v, e = .returned v) ∧ ∃ iv' lv', St w0 Z wb fb hb x f fl iv' lv' (idl pc idle) hts wr (wkF pc idle (met, left)).1 (wkF pc idle (met, left)).2 X' ∧ Fr (stS Z lv) X X' ∧ nwL X lv lv' := by
  obtain ⟨X1, eX1⟩ : ∃ W1, W1 = (X.alloc (.cells #[.int .i64 pc] 3)).alloc (.cells #[fM Z] 146) := ⟨_, rfl⟩
  have f1 : Fr (fun _ => False) X X1 := by rw [eX1]; exact ((Fr.refl _ X).alloc _).alloc _
  have h1 := h.keep g f1 (fun _ _ e => e)
  have bp : Bxv X1 X.heap.size (.int .i64 pc) := by rw [eX1]; exact (Bxv.new X _ 3).keep ((Fr.refl (fun _ => False) _).alloc _) (fun e => e)
  have bq : Bxv X1 (X.heap.size + 1) (fM Z) := by rw [eX1]; exact Bxv.new' _ _ _ (by simp)
  have hm1 : ∀ k, X.heap.size ≤ k → ¬ (mtS Z lv k ∨ iv.ownBlock = some k) := fun k hk e => e.elim (fun e => by have := h.ml.lt e; omega) (fun e => by have := h.io.lt k e; omega)
  have HC := hide (delFunc_any pc h1.ml bp bq h1.io (fun y hy => g.hk y (h1.is y hy)) (hm1 _ (by omega)) (hm1 _ (by omega)) (fun k hk e => by have := h.ml.ge e; have := (h.iz k hk).2.1; omega) (fun k hk => by have := (h.iz k hk).2.1; omega) (by have := h.il; have := g.hm; omega) (by have := h.il; have := g.hm; omega))
  have HG := hide g
  have H1 := hide h1
  have HF := hide f1
  have c6 := h.cell (j := 6) rfl
  have lw := h.wlt
  have hsz : X1.heap.size = X.heap.size + 2 := by rw [eX1]; simp
  have HX := hide eX1
  clear hm1 h h1 g f1 bp bq
  go_enter Tryz.func75, Tryz.ntmps75
  go_wp2_with fail
  rw [← eX1]
  refine (unhide HC).mono ?_
  rintro e X3 ⟨iv2, rfl, lv2, D⟩
  have HD := hide ((unhide H1).del (unhide HG) D)
  have w3 : X3.cell? ⟨wb, 6, none⟩ = some iv ∧ X3.frozen? ⟨wb, 6, none⟩ = false := by
    have hn : ¬ (mtS Z lv wb ∨ iv.ownBlock = some wb) := fun e => e.elim (fun e => by have := (unhide H1).ml.ge e; have := (unhide HG).wz; omega) (fun e => ((unhide H1).iz wb e).2.2.1 rfl)
    exact ⟨(D.fr.cell (a := ⟨wb, 6, none⟩) (by show wb < X1.heap.size; omega) hn).trans ((unhide H1).cell rfl), (D.fr.frozen (a := ⟨wb, 6, none⟩) (by show wb < X1.heap.size; omega) hn).trans ((unhide H1).free 6)⟩
  obtain ⟨c, z⟩ := w3
  have l3 : wb < X3.heap.size := World.block_lt_of_cell? _ _ c
  obtain ⟨ia, ic, ev, _, _⟩ := D.ro.shape
  generalize (idl pc idle).length = L at ev
  subst ev
  clear D HC c6 eX1 lw
  go_wp2_with fail
  go_end0
  refine ⟨⟨_, rfl⟩, _, _, (unhide HD).1, ?_, ?_⟩
  · exact ⟨(unhide HD).2.1.os.trans (unhide HF).os, (unhide HD).2.1.tape.trans (unhide HF).tape, (unhide HD).2.1.output.trans (unhide HF).output, Nat.le_trans (unhide HF).size (unhide HD).2.1.size, fun k hk hn => ((unhide HD).2.1.block k (by omega) hn).trans ((unhide HF).block k hk (fun e => e))⟩
  · exact (unhide HD).2.2.imp id (fun q k hk => by have := q k hk; omega)
end Go.Proofs.YtpfogphpeegfdaaGreatDoor
