/-
  A program that is written over.
-/
import Derived.Test.YtepfhchbmpfaoaaLnt
namespace Go.Proofs.Ytepfhchbmpfaoaa
open Go.RowKit
set_option linter.unusedVariables false
theorem Ro.some_set {w : World} {sz : Nat} {v : Value} {n : Nat} {xs : List Value} (h : Ro w sz v n xs) (b o : Nat) (u : Value) : ∃ xs', Ro (w.setCell ⟨b, o, none⟩ u) sz v n xs' := by
  obtain ⟨h1, h2⟩ := h
  rcases h2 with ⟨e, h0⟩ | ⟨g, off, cap, cur, t, e, hh, h3, h4, h5, h6⟩
  · exact ⟨xs, h1, .inl ⟨e, h0⟩⟩
  · by_cases hb : b = g
    · subst hb
      have hnew := setCell_block hh u (o := o)
      have hm : n * sz ≤ cap * sz := Nat.mul_le_mul_right _ h3
      refine ⟨((cur.setIfInBounds o u).toList.drop off).take (n * sz), ?_, .inr ⟨b, off, cap, _, t, e, hnew, h3, h4, by simpa using h5, fun j hj => ?_⟩⟩
      · rw [List.length_take, List.length_drop]; simp; omega
      · rw [List.getElem?_take, if_pos hj, List.getElem?_drop, Array.getElem?_toList]
    · exact ⟨xs, h1, .inr ⟨g, off, cap, cur, t, e, (Below.heap_setCell _ _ _ _ (fun e2 => hb (by simpa using e2.symm))).trans hh, h3, h4, h5, h6⟩⟩
structure Tn (w0 : World) (B q : Nat) (cg co ccap fg fo fcap NC : Nat) (xs : List Fv) (wr : World) : Prop where
  fr : Fr (fun k => B ≤ k ∧ k < q) w0 wr
  crow : ∃ us, Ro wr 3 (.slice (some ⟨cg, co, none⟩) NC ccap) NC us
  frow : Ro wr 5 (.slice (some ⟨fg, fo, none⟩) xs.length fcap) xs.length (flt enF xs)
  ne : cg ≠ fg
  rows : ∀ (k : Nat) (x : Fv), xs[k]? = some x → (∃ n us, Ro wr 2 x.cv n us) ∧ (∃ n us, Ro wr 4 x.hv n us)
  cq : B ≤ cg ∧ cg < q
  fq : B ≤ fg ∧ fg < q
  apart : ∀ (k : Nat) (x : Fv) (b : Nat), xs[k]? = some x → (x.cv.ownBlock = some b ∨ x.hv.ownBlock = some b) → B ≤ b ∧ b < q ∧ b ≠ fg
section
variable {w0 wr : World} {B q cg co ccap fg fo fcap NC : Nat} {xs : List Fv}
theorem Tn.drawn (h : Tn w0 B q cg co ccap fg fo fcap NC xs wr) : Tn w0 B q cg co ccap fg fo fcap NC xs wr.drew :=
  ⟨⟨h.fr.os, h.fr.tape, h.fr.output, h.fr.size, h.fr.block⟩, by obtain ⟨us, r⟩ := h.crow; exact ⟨us, r.keep (fun _ _ => rfl)⟩, h.frow.keep (fun _ _ => rfl), h.ne, fun k x hx => by
    obtain ⟨⟨n, us, r⟩, ⟨m, vs, r2⟩⟩ := h.rows k x hx
    exact ⟨⟨n, us, r.keep (fun _ _ => rfl)⟩, ⟨m, vs, r2.keep (fun _ _ => rfl)⟩⟩, h.cq, h.fq, h.apart⟩
theorem Tn.setAny (h : Tn w0 B q cg co ccap fg fo fcap NC xs wr) {b : Nat} (hb : B ≤ b ∧ b < q ∧ b ≠ fg) (o : Nat) (u : Value) : Tn w0 B q cg co ccap fg fo fcap NC xs (wr.setCell ⟨b, o, none⟩ u) := by
  refine ⟨h.fr.setCell ⟨b, o, none⟩ (.inr ⟨hb.1, hb.2.1⟩) u, ?_, ?_, h.ne, fun k x hx => ?_, h.cq, h.fq, h.apart⟩
  · obtain ⟨us, r⟩ := h.crow; exact r.some_set b o u
  · exact h.frow.keep (fun g hg => Below.heap_setCell _ _ _ _ (fun e => by simp [Value.ownBlock] at hg e; omega))
  · obtain ⟨⟨n, us, r⟩, ⟨m, vs, r2⟩⟩ := h.rows k x hx
    exact ⟨⟨n, r.some_set b o u⟩, ⟨m, r2.some_set b o u⟩⟩
theorem Tn.setF (h : Tn w0 B q cg co ccap fg fo fcap NC xs wr) {k j : Nat} {x x' : Fv} {u : Value} (hx : xs[k]? = some x) (hj : j < 5) (hset : ∀ i, i < 5 → (enF x')[i]? = if i = j then some u else (enF x)[i]?) (hc : x'.cv = x.cv) (hh : x'.hv = x.hv) :
    (∃ old, wr.cell? ⟨fg, fo + k * 5 + j, none⟩ = some old) ∧ wr.frozen? ⟨fg, fo + k * 5 + j, none⟩ = false ∧ Hid (Tn w0 B q cg co ccap fg fo fcap NC (xs.set k x') (wr.setCell ⟨fg, fo + k * 5 + j, none⟩ u)) := by
  obtain ⟨hk, hxk⟩ := List.getElem?_eq_some_iff.1 hx
  have hfo := h.frow
  obtain ⟨g2, o2, c2, e2, hlc, hm, hgl, hcell⟩ := hfo.full (by omega)
  cases e2
  have hm5 : k * 5 + j < xs.length * 5 := by omega
  have old : wr.cell? ⟨fg, fo + k * 5 + j, none⟩ = some ((enF x)[j]'(by rw [zF]; exact hj)) := by
    rw [Nat.add_assoc, hcell _ hm5, flt_at zF hx j hj]
    exact List.getElem?_eq_getElem _
  have hcap5 : xs.length * 5 ≤ fcap * 5 := Nat.mul_le_mul_right _ hlc
  obtain ⟨r1, r2⟩ := hfo.sets rfl (o := fo + k * 5 + j) (m := xs.length) (vs := [u]) (ys := flt enF (xs.set k x')) (by omega) (by simp; omega) hlc (by rw [flt_length zF, List.length_set]) (fun i hi => by
    rw [flt_set zF xs k x' hk i]
    simp only [List.length_singleton]
    by_cases q1 : k * 5 ≤ i ∧ i < k * 5 + 5
    · rw [if_pos q1, hset (i - k * 5) (by omega)]
      by_cases q2 : i - k * 5 = j
      · rw [if_pos q2, if_pos (by omega), show fo + i - (fo + k * 5 + j) = 0 by omega]; rfl
      · rw [if_neg q2, if_neg (by omega), ← flt_at zF hx (i - k * 5) (by omega)]
        congr 1; omega
    · rw [if_neg q1, if_neg (by omega)]) (fun i hi hi2 => by omega)
  have hst : wr.setCells fg (fo + k * 5 + j) [u] = wr.setCell ⟨fg, fo + k * 5 + j, none⟩ u := rfl
  rw [hst] at r1 r2
  have hfq := h.fq
  have hold : ∀ (k' : Nat) (x2 : Fv), (xs.set k x')[k']? = some x2 → ∃ x3, xs[k']? = some x3 ∧ x2.cv = x3.cv ∧ x2.hv = x3.hv := fun k' x2 h2 => by
    by_cases e : k = k'
    · subst e
      rw [List.getElem?_set_self hk] at h2
      cases h2
      exact ⟨x, hx, hc, hh⟩
    · rw [List.getElem?_set_ne e] at h2
      exact ⟨x2, h2, rfl, rfl⟩
  refine ⟨⟨_, old⟩, hfo.free rfl _, ⟨h.fr.setCell ⟨fg, fo + k * 5 + j, none⟩ (.inr hfq) u, ?_, ?_, h.ne, fun k' x2 h2 => ?_, h.cq, h.fq, fun k' x2 b h2 hb => ?_⟩⟩
  · obtain ⟨us, r⟩ := h.crow; exact r.some_set fg _ u
  · rw [List.length_set]; exact r1
  · obtain ⟨x3, h3, e1, e2⟩ := hold k' x2 h2
    obtain ⟨⟨n, us, r⟩, ⟨m, vs, r2⟩⟩ := h.rows k' x3 h3
    rw [e1, e2]
    exact ⟨⟨n, r.some_set fg _ u⟩, ⟨m, r2.some_set fg _ u⟩⟩
  · obtain ⟨x3, h3, e1, e2⟩ := hold k' x2 h2
    rw [e1, e2] at hb
    exact h.apart k' x3 b h3 hb
end
/-- What was lent, ahead of its being written over. -/
theorem Lnt.tn {w wr W : World} {p : Pg} {cg co ccap fg fo fcap q : Nat} {ys : List Fv} (h : Lnt w p cg co ccap fg fo fcap ys wr) (hc : cg < q) (hf : fg < q) (hy : ∀ (k : Nat) (y : Fv) (b : Nat), ys[k]? = some y → (y.cv.ownBlock = some b ∨ y.hv.ownBlock = some b) → b < q) (hW : Below wr.heap.size wr W) :
    Tn W w.heap.size q cg co ccap fg fo fcap p.consts.length (List.zipWith lentF p.funcs ys) W := by
  have hz : (List.zipWith lentF p.funcs ys).length = p.funcs.length := by rw [List.length_zipWith, h.yl, Nat.min_self]
  have hk := h.keep hW
  have own : ∀ (k : Nat) (x : Fv), (List.zipWith lentF p.funcs ys)[k]? = some x → ∃ f y, p.funcs[k]? = some f ∧ ys[k]? = some y ∧ x = lentF f y := fun k x hx => by
    rw [List.getElem?_zipWith] at hx
    cases ef : p.funcs[k]? with
    | none => rw [ef] at hx; simp at hx
    | some f =>
      cases ey : ys[k]? with
      | none => rw [ef, ey] at hx; simp at hx
      | some y => rw [ef, ey] at hx; simp at hx; exact ⟨f, y, rfl, rfl, hx.symm⟩
  have cut : ∀ (v : Value) (n : Nat), (cutV v n).ownBlock = v.ownBlock := fun v n => by
    cases v with
    | slice a _ _ => cases a <;> rfl
    | _ => rfl
  refine ⟨Fr.refl _ _, ?_, ?_, h.ne, fun k x hx => ?_, ⟨h.cb, hc⟩, ⟨h.fb, hf⟩, fun k x b hx hb => ?_⟩
  · have := hk.crow.upto rfl (k := p.consts.length) (by omega)
    exact ⟨_, this⟩
  · have := hk.frow.upto rfl (k := p.funcs.length) (by omega)
    rw [flt_take zF, List.take_left' hz] at this
    rw [hz]
    exact this
  · obtain ⟨f, y, hf', hy', rfl⟩ := own k x hx
    obtain ⟨_, _, _, r1, r2⟩ := hk.own.rows k f y hf' hy'
    exact ⟨⟨_, _, cutV_ro r1 (m := f.code.length) (by omega) (by omega)⟩, ⟨_, _, cutV_ro r2 (m := f.hs.length) (by omega) (by omega)⟩⟩
  · obtain ⟨f, y, hf', hy', rfl⟩ := own k x hx
    simp only [lentF, cut] at hb
    obtain ⟨a1, a2, a3, a4⟩ := h.own.apart k y b hy' hb
    exact ⟨by omega, hy k y b hy' hb, fun e => a4 (by rw [e]; rfl)⟩
end Go.Proofs.Ytepfhchbmpfaoaa
