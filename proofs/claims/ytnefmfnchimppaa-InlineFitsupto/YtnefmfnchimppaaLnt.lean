/-
  A program that was lent.
-/
import Derived.Test.YtnefmfnchimppaaLP
namespace Go.Proofs.Ytnefmfnchimppaa
open Go.RowKit
set_option linter.unusedVariables false
theorem results_cell_oneL {fn : Func} {p : Tmp} {ty : TypeId} (h : fn.results = #[.cell p ty]) (tmps : Array Value) (P : Program) (w : World) :
    (results fn tmps).run P w = ((asAddr (tmps.getD p undef)).run P w).andThen fun a w₁ => (loadVar ty a).run P w₁ := by
  simp only [results, h]
  simp [Sem.run_bind, Result.andThen]

set_option maxRecDepth 100000 in
theorem OwnY.frS {q : Nat} {cv fv : Value} {fs : List Fc} {ys : List Fv} {wr w' : World} {S : Nat → Prop} (h : OwnY q cv fv fs ys wr) (f : Fr S wr w') (hn : ∀ b, q < b → b < wr.heap.size → cv.ownBlock ≠ some b → fv.ownBlock ≠ some b → ¬ S b) : OwnY q cv fv fs ys w' := by
  have hne : ∀ (k : Nat) (y : Fv) (b : Nat), ys[k]? = some y → (y.cv.ownBlock = some b ∨ y.hv.ownBlock = some b) → ¬ S b := fun k y b hy hb => by
    obtain ⟨a1, a2, a3, a4⟩ := h.apart k y b hy hb
    exact hn b a1 a2 a3 a4
  refine ⟨fun k g y hg hy => ?_, h.le, fun k y b hy hb => ?_, h.each⟩
  · obtain ⟨e1, e2, e3, r1, r2⟩ := h.rows k g y hg hy
    exact ⟨e1, e2, e3, r1.fr f (fun b hb => hne k y b hy (.inl hb)), r2.fr f (fun b hb => hne k y b hy (.inr hb))⟩
  · obtain ⟨a1, a2, a3, a4⟩ := h.apart k y b hy hb
    exact ⟨a1, Nat.lt_of_lt_of_le a2 f.size, a3, a4⟩
theorem OwnY.low {q q' : Nat} {cv fv : Value} {fs : List Fc} {ys : List Fv} {wr : World} (h : OwnY q cv fv fs ys wr) (hq : q' ≤ q) : OwnY q' cv fv fs ys wr :=
  ⟨h.rows, h.le, fun k y b hy hb => by obtain ⟨a1, a2, a3, a4⟩ := h.apart k y b hy hb; exact ⟨by omega, a2, a3, a4⟩, h.each⟩
/-- A program as it was lent: its two full rows, the full lists of its functions. -/
structure Lnt (w : World) (p : Pg) (cg co ccap fg fo fcap : Nat) (ys : List Fv) (wr : World) : Prop where
  below : Below w.heap.size w wr
  crow : Ro wr 3 (.slice (some ⟨cg, co, none⟩) (p.consts.length + 64) ccap) (p.consts.length + 64) (flt enC (p.consts ++ mkC 64))
  frow : Ro wr 5 (.slice (some ⟨fg, fo, none⟩) (p.funcs.length + p.funcs.length + 64) fcap) (p.funcs.length + p.funcs.length + 64) (flt enF (List.zipWith lentF p.funcs ys ++ (ys ++ mkF p.funcs.length 64)))
  cb : w.heap.size ≤ cg
  fb : w.heap.size ≤ fg
  ne : cg ≠ fg
  yl : ys.length = p.funcs.length
  own : OwnY w.heap.size (.slice (some ⟨cg, co, none⟩) (p.consts.length + 64) ccap) (.slice (some ⟨fg, fo, none⟩) (p.funcs.length + p.funcs.length + 64) fcap) p.funcs ys wr
theorem lnt_of {w w1 wr w' : World} {p : Pg} {xs0 ys : List Fv} {cg co ccap fg fo fcap NC NF : Nat} (h : LP w1 (w.heap.size + 2) (w.heap.size + 1 + 1) (p.consts ++ mkC 64) (lentTo p.funcs xs0 ys NF ++ (ys ++ mkF NF 64)) (.slice (some ⟨cg, co, none⟩) (NC + 64) ccap) (.slice (some ⟨fg, fo, none⟩) (NF + NF + 64) fcap) wr)
    (hO : OwnY (w.heap.size + 1 + 1) (.slice (some ⟨cg, co, none⟩) (NC + 64) ccap) (.slice (some ⟨fg, fo, none⟩) (NF + NF + 64) fcap) p.funcs ys wr) (hb : Below w.heap.size w w1) (f : Fr (fun k => k = w.heap.size + 1 ∨ k = w.heap.size + 1 + 1) wr w')
    (hNC : p.consts.length = NC) (hNF : p.funcs.length = NF) (hX : xs0.length = NF) (hyl : ys.length = NF) : Lnt w p cg co ccap fg fo fcap ys w' := by
  subst hNC hNF
  have hz : (List.zipWith lentF p.funcs ys).length = p.funcs.length := by rw [List.length_zipWith, hyl, Nat.min_self]
  have el : lentTo p.funcs xs0 ys p.funcs.length = List.zipWith lentF p.funcs ys := by
    unfold lentTo
    rw [List.take_of_length_le (by rw [hz]; exact Nat.le_refl _), List.drop_eq_nil_of_le (by rw [hX]; exact Nat.le_refl _), List.append_nil]
  rw [el] at h
  have c1 := h.cb cg rfl
  have f1 := h.fb fg rfl
  have hql := h.qlt
  have lc : (p.consts ++ mkC 64).length = p.consts.length + 64 := by rw [List.length_append, mkC_length]
  have lf : (List.zipWith lentF p.funcs ys ++ (ys ++ mkF p.funcs.length 64)).length = p.funcs.length + p.funcs.length + 64 := by rw [List.length_append, List.length_append, hz, mkF_length, hyl]; omega
  refine ⟨(hb.trans (h.below.mono (by omega))).trans (f.below (by omega) (fun k hk e => by omega)), ?_, ?_, by omega, by omega, fun e => h.ne cg rfl (by rw [e]; rfl), hyl, ?_⟩
  · have := h.co
    rw [lc] at this
    exact this.fr f (fun k hk (e : k = w.heap.size + 1 ∨ k = w.heap.size + 1 + 1) => by simp [Value.ownBlock] at hk; omega)
  · have := h.fo
    rw [lf] at this
    exact this.fr f (fun k hk (e : k = w.heap.size + 1 ∨ k = w.heap.size + 1 + 1) => by simp [Value.ownBlock] at hk; omega)
  · exact (hO.frS f (fun b h1 h2 _ _ (e : b = w.heap.size + 1 ∨ b = w.heap.size + 1 + 1) => by omega)).low (by omega)
section
variable {w wr : World} {p : Pg} {cg co ccap fg fo fcap : Nat} {ys : List Fv}
theorem Lnt.keep {w' : World} (h : Lnt w p cg co ccap fg fo fcap ys wr) (f : Below wr.heap.size wr w') : Lnt w p cg co ccap fg fo fcap ys w' :=
  ⟨h.below.trans (f.mono h.below.size), h.crow.keep (fun g hg => f.block g (h.crow.lt g hg)), h.frow.keep (fun g hg => f.block g (h.frow.lt g hg)), h.cb, h.fb, h.ne, h.yl, h.own.frS (S := fun _ => False) (Fr.of_below f) (fun _ _ _ _ _ e => e)⟩
theorem cutV_ro {sz : Nat} {v : Value} {n m : Nat} {xs : List Value} (h : Ro wr sz v n xs) (hm : m ≤ n) (hn : 0 < n) : Ro wr sz (cutV v m) m (xs.take (m * sz)) := by
  obtain ⟨g, off, cap, e, _⟩ := h.full hn
  subst e
  exact h.upto rfl hm
/-- What was lent can be read as the program. -/
theorem Lnt.pgv (h : Lnt w p cg co ccap fg fo fcap ys wr) : PgV wr (.agg #[.slice (some ⟨cg, co, none⟩) p.consts.length ccap, .slice (some ⟨fg, fo, none⟩) p.funcs.length fcap]) p := by
  have hz : (List.zipWith lentF p.funcs ys).length = p.funcs.length := by rw [List.length_zipWith, h.yl, Nat.min_self]
  refine ⟨_, _, rfl, ?_, List.zipWith lentF p.funcs ys, hz, ?_, fun i f x hf hx => ?_⟩
  · have := h.crow.upto rfl (k := p.consts.length) (by omega)
    rw [flt_take zC, List.take_left] at this
    exact Rx.of_ro this
  · have := h.frow.upto rfl (k := p.funcs.length) (by omega)
    rw [flt_take zF, List.take_left' hz] at this
    rw [hz]
    exact Rx.of_ro this
  · have hi := (List.getElem?_eq_some_iff.1 hf).1
    obtain ⟨y, hy⟩ : ∃ y, ys[i]? = some y := ⟨_, List.getElem?_eq_getElem (by rw [h.yl]; exact hi)⟩
    rw [List.getElem?_zipWith, hf, hy] at hx
    cases hx
    obtain ⟨_, _, _, r1, r2⟩ := h.own.rows i f y hf hy
    have c1 := cutV_ro r1 (m := f.code.length) (by omega) (by omega)
    have c2 := cutV_ro r2 (m := f.hs.length) (by omega) (by omega)
    rw [flt_take zI, List.take_left] at c1
    rw [flt_take zH, List.take_left] at c2
    exact ⟨rfl, rfl, rfl, Rx.of_ro c1, Rx.of_ro c2⟩
end
end Go.Proofs.Ytnefmfnchimppaa
