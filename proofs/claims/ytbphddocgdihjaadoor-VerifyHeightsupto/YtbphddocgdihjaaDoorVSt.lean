/-
  The walk's state, and wake.
-/
import Derived.Test.YtbphddocgdihjaaDoorVEff
namespace Go.Proofs.YtbphddocgdihjaaDoor
open Go.RowKit
set_option linter.unusedVariables false
set_option linter.unusedSimpArgs false
/-- What stays as it is all the while. -/
structure Bs (w0 : World) (Z wb fb hb : Nat) (x : Fv) (f : Fc) : Prop where
  wz : w0.heap.size ≤ wb ∧ wb < Z
  fz : w0.heap.size ≤ fb ∧ fb < Z
  hz : w0.heap.size ≤ hb ∧ hb < Z
  wf : wb ≠ fb
  wh : wb ≠ hb
  fh : fb ≠ hb
  co : FnV w0 f x
  n1 : 1 ≤ f.code.length
  nm : f.code.length ≤ 1048576
  hm : f.hs.length ≤ 1048576
  hk : ∀ h ∈ f.hs, OkH h
/-- The struct's cells. -/
def wkC (x : Fv) (fb hb N : Nat) (iv : Value) (wr : Int) : List Value :=
  [.string x.name, .int .i64 x.params, .int .i64 x.locals, x.cv, x.hv, .slice (some ⟨fb, 0, none⟩) N N, iv, .slice (some ⟨hb, 0, none⟩) N N, .int .i64 wr]
/-- The state. -/
structure St (w0 : World) (Z wb fb hb : Nat) (x : Fv) (f : Fc) (fl : List Int) (iv lv : Value) (idle : List Hd) (hts : List Int) (wr : Int) (met left : List Spot) (X : World) : Prop where
  wk : Ro X 9 (.slice (some ⟨wb, 0, none⟩) 1 1) 1 (wkC x fb hb f.code.length iv wr)
  fo : Ro X 1 (.slice (some ⟨fb, 0, none⟩) f.code.length f.code.length) f.code.length (flt enN fl)
  ho : Ro X 1 (.slice (some ⟨hb, 0, none⟩) f.code.length f.code.length) f.code.length (flt enN hts)
  io : Ro X 4 iv idle.length (flt enH idle)
  ml : ML X Z met left lv
  iz : ∀ k, iv.ownBlock = some k → w0.heap.size ≤ k ∧ k < Z ∧ k ≠ wb ∧ k ≠ fb ∧ k ≠ hb
  bl : Below w0.heap.size w0 X
  is : ∀ h ∈ idle, h ∈ f.hs
  il : idle.length ≤ f.hs.length
/-- What a step of the walk may turn. -/
def stS (Z : Nat) (lv : Value) (k : Nat) : Prop := k < Z ∨ mtS Z lv k
theorem ML.ge {X : World} {Z : Nat} {met left : List Spot} {lv : Value} (h : ML X Z met left lv) {k : Nat} (e : mtS Z lv k) : Z ≤ k := by
  rcases e with e | e | e
  · omega
  · omega
  · have := h.own k e; omega
theorem ML.lt {X : World} {Z : Nat} {met left : List Spot} {lv : Value} (h : ML X Z met left lv) {k : Nat} (e : mtS Z lv k) : k < X.heap.size := by
  have := h.bl.lt
  rcases e with e | e | e
  · omega
  · omega
  · exact h.lf.lt k e
section
variable {w0 X Y : World} {Z wb fb hb : Nat} {x : Fv} {f : Fc} {fl : List Int} {iv lv : Value} {idle : List Hd} {hts : List Int} {wr : Int} {met left : List Spot}
/-- Nothing of it is turned. -/
theorem St.keep {S : Nat → Prop} (h : St w0 Z wb fb hb x f fl iv lv idle hts wr met left X) (g : Bs w0 Z wb fb hb x f) (fr : Fr S X Y) (hS : ∀ k, k < X.heap.size → ¬ S k) : St w0 Z wb fb hb x f fl iv lv idle hts wr met left Y := by
  have own : ∀ {v : Value} {sz n xs}, Ro X sz v n xs → Ro Y sz v n xs := fun r => r.fr fr (fun k hk => hS k (r.lt k hk))
  have hz := h.ml.bl.lt
  exact ⟨own h.wk, own h.fo, own h.ho, own h.io, h.ml.keep fr (hS _ (by omega)) (hS _ (by omega)) (hS _ (by omega)) (fun k hk => hS k (h.ml.lf.lt k hk)), h.iz, h.bl.trans (fr.below (by have := h.bl.size; omega) (fun k hk => hS k (by have := h.bl.size; omega))), h.is, h.il⟩
/-- A cell of the struct. -/
theorem St.cell (h : St w0 Z wb fb hb x f fl iv lv idle hts wr met left X) {j : Nat} {v : Value} (hv : (wkC x fb hb f.code.length iv wr)[j]? = some v) : X.cell? ⟨wb, j, none⟩ = some v := by
  obtain ⟨b', off', c', e, _, _, hb, hc⟩ := h.wk.full (by omega)
  cases e
  have hj := (List.getElem?_eq_some_iff.1 hv).1
  have := hc j (by simp [wkC] at hj; omega)
  rw [Nat.zero_add] at this
  rw [this, hv]
theorem St.free (h : St w0 Z wb fb hb x f fl iv lv idle hts wr met left X) (j : Nat) : X.frozen? ⟨wb, j, none⟩ = false := h.wk.free rfl j
theorem St.wlt (h : St w0 Z wb fb hb x f fl iv lv idle hts wr met left X) : wb < X.heap.size := World.block_lt_of_cell? _ _ (h.cell (j := 0) rfl)
/-- meet was called. -/
theorem St.mets {met2 left2 : List Spot} {lv2 : Value} (h : St w0 Z wb fb hb x f fl iv lv idle hts wr met left X) (g : Bs w0 Z wb fb hb x f) (hM : ML Y Z met2 left2 lv2) (fr : Fr (mtS Z lv) X Y) : St w0 Z wb fb hb x f fl iv lv2 idle hts wr met2 left2 Y := by
  have no : ∀ k, k < Z → ¬ mtS Z lv k := fun k hk e => by have := h.ml.ge e; omega
  have hz := h.ml.bl.lt
  have g1 := g.wz; have g2 := g.fz; have g3 := g.hz
  refine ⟨h.wk.fr fr (fun k hk => no k ?_), h.fo.fr fr (fun k hk => no k ?_), h.ho.fr fr (fun k hk => no k ?_), h.io.fr fr (fun k hk => no k (h.iz k hk).2.1), hM, h.iz, h.bl.trans (fr.below h.bl.size (fun k hk => no k (by omega))), h.is, h.il⟩
  all_goals
    simp [Value.ownBlock] at hk
    omega
/-- A cell of the struct is written. -/
theorem St.put {iv2 : Value} {wr2 : Int} {j : Nat} {v : Value} (h : Ro X 9 (.slice (some ⟨wb, 0, none⟩) 1 1) 1 (wkC x fb hb f.code.length iv wr)) (he : (wkC x fb hb f.code.length iv wr).set j v = wkC x fb hb f.code.length iv2 wr2) (hj : j < 9) :
    Ro (X.setCell ⟨wb, j, none⟩ v) 9 (.slice (some ⟨wb, 0, none⟩) 1 1) 1 (wkC x fb hb f.code.length iv2 wr2) := by
  refine (h.sets rfl (o := 0 + j) (m := 1) (vs := [v]) (ys := wkC x fb hb f.code.length iv2 wr2) (by omega) (by simp; omega) (by omega) rfl (fun i hi => ?_) (fun i hi q => by omega)).1 |> fun r => by simpa [World.setCells] using r
  rw [← he]
  by_cases q : i = j
  · subst q
    rw [if_pos (by simp), List.getElem?_set_self (by simp [wkC]; omega)]
    simp
  · rw [if_neg (by simp; omega), List.getElem?_set_ne (by omega)]
end
end Go.Proofs.YtbphddocgdihjaaDoor
