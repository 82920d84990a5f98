/-
  Two books and two profiles of the document side by side.
-/
import Derived.Test.YtjjfpokmpcpicaaNtB
import Derived.Test.YtjjfpokmpcpicaaD10
namespace Go.Proofs.Ytjjfpokmpcpicaa
open Go.RowKit
set_option linter.unusedVariables false
set_option linter.unusedSimpArgs false
theorem noteP_lens (f : List (List Sp)) (s : Int × Int) (l : List (Int × Int)) (k : Int) : (noteP f s l k).map List.length = f.map List.length := by
  unfold noteP
  cases e : spAt f s with
  | none => rfl
  | some x =>
    obtain ⟨i, j, p, rfl, h1, h2⟩ := spAt_some e
    simp only
    rw [setAt_of h1]
    refine List.ext_getElem? (fun n => ?_)
    rw [List.getElem?_map, List.getElem?_map]
    by_cases q : i = n
    · subst q
      rw [List.getElem?_set_self (List.getElem?_eq_some_iff.1 h1).1, h1]
      simp
    · rw [List.getElem?_set_ne q]
theorem lens_len {f : List (List Sp)} {sh : List Nat} (h : f.map List.length = sh) : f.length = sh.length := by rw [← h, List.length_map]
theorem lens_le {f : List (List Sp)} {sh : List Nat} {B : Nat} (h : f.map List.length = sh) (hs : sh.sum ≤ B) : ∀ l ∈ f, l.length ≤ B := fun l hl => by
  have : l.length ∈ sh := by rw [← h]; exact List.mem_map_of_mem hl
  exact Nat.le_trans (le_sumN this) hs
theorem LO.so {Z : Nat → Prop} {w : World} {v : Value} {f : List (List Sp)} {vs : List Value} (h : LO Z w v f vs) : SO Z w v f vs :=
  ⟨h.len, h.row, h.rb, fun i l u hl hu => (h.el i l u hl hu).rx, h.eb, h.ap⟩
/-- Where the document's profiles lie. -/
def Zd (A2 m1 m2 : Nat) (k : Nat) : Prop := A2 ≤ k ∧ k ≠ m1 ∧ k ≠ m2
structure LI (w : World) (A0 A1 A2 m1 m2 pa pb : Nat) (shp shq : List Nat) (fa fb da db : List (List Sp)) (fv gv : Value) (vf vg : List Value) (wr : World) : Prop where
  bl : Below w.heap.size w wr
  s0 : w.heap.size ≤ A0
  s1 : A0 ≤ A1
  s2 : A1 ≤ A2
  s3 : A2 ≤ m1
  s4 : m1 < m2
  s5 : m2 < wr.heap.size
  ba : BkM (fun k => A0 ≤ k ∧ k < A1) wr pa fa
  bb : BkM (fun k => A1 ≤ k ∧ k < A2) wr pb fb
  oa : OkF fa
  ob : OkF fb
  la : fa.map List.length = shp
  lb : fb.map List.length = shq
  x1 : wr.heap[m1]? = some (.cells #[fv] 28)
  x2 : wr.heap[m2]? = some (.cells #[gv] 28)
  sf : SO (Zd A2 m1 m2) wr fv da vf
  sg : SO (Zd A2 m1 m2) wr gv db vg
section
variable {w : World} {A0 A1 A2 m1 m2 pa pb : Nat} {shp shq : List Nat} {fa fb da db : List (List Sp)} {fv gv : Value} {vf vg : List Value} {wr w' : World}
theorem LI.on (h : LI w A0 A1 A2 m1 m2 pa pb shp shq fa fb da db fv gv vf vg wr) (k : Below wr.heap.size wr w') : LI w A0 A1 A2 m1 m2 pa pb shp shq fa fb da db fv gv vf vg w' :=
  ⟨bl_past h.bl k, h.s0, h.s1, h.s2, h.s3, h.s4, Nat.lt_of_lt_of_le h.s5 k.size, h.ba.below k, h.bb.below k, h.oa, h.ob, h.la, h.lb, (k.block _ (Array.getElem?_eq_some_iff.1 h.x1).1).trans h.x1, (k.block _ (Array.getElem?_eq_some_iff.1 h.x2).1).trans h.x2, h.sf.below staysS k, h.sg.below staysS k⟩
/-- The first book has taken a note. -/
theorem LI.tellA (h : LI w A0 A1 A2 m1 m2 pa pb shp shq fa fb da db fv gv vf vg wr) {fa' : List (List Sp)} (b : BkM (fun k => A0 ≤ k ∧ k < A1) w' pa fa') (o : OkF fa') (l : fa'.map List.length = shp) (k : Fr (fun k => A0 ≤ k ∧ k < A1) wr w') : LI w A0 A1 A2 m1 m2 pa pb shp shq fa' fb da db fv gv vf vg w' := by
  have h0 := h.s0; have h1 := h.s1; have h2 := h.s2; have h3 := h.s3; have h4 := h.s4; have h5 := h.s5
  exact ⟨h.bl.trans (k.below h.bl.size (fun b hb e => by omega)), h0, h1, h2, h3, h4, Nat.lt_of_lt_of_le h5 k.size, b, h.bb.fr k (fun b _ e q => by omega), o, h.ob, l, h.lb, (k.block _ (Array.getElem?_eq_some_iff.1 h.x1).1 (by omega)).trans h.x1, (k.block _ (Array.getElem?_eq_some_iff.1 h.x2).1 (by omega)).trans h.x2, h.sf.frZ staysS k (fun b _ e q => by have := e.1; omega), h.sg.frZ staysS k (fun b _ e q => by have := e.1; omega)⟩
theorem LI.tellB (h : LI w A0 A1 A2 m1 m2 pa pb shp shq fa fb da db fv gv vf vg wr) {fb' : List (List Sp)} (b : BkM (fun k => A1 ≤ k ∧ k < A2) w' pb fb') (o : OkF fb') (l : fb'.map List.length = shq) (k : Fr (fun k => A1 ≤ k ∧ k < A2) wr w') : LI w A0 A1 A2 m1 m2 pa pb shp shq fa fb' da db fv gv vf vg w' := by
  have h0 := h.s0; have h1 := h.s1; have h2 := h.s2; have h3 := h.s3; have h4 := h.s4; have h5 := h.s5
  exact ⟨h.bl.trans (k.below h.bl.size (fun b hb e => by omega)), h0, h1, h2, h3, h4, Nat.lt_of_lt_of_le h5 k.size, h.ba.fr k (fun b _ e q => by omega), b, h.oa, o, h.la, l, (k.block _ (Array.getElem?_eq_some_iff.1 h.x1).1 (by omega)).trans h.x1, (k.block _ (Array.getElem?_eq_some_iff.1 h.x2).1 (by omega)).trans h.x2, h.sf.frZ staysS k (fun b _ e q => by have := e.1; omega), h.sg.frZ staysS k (fun b _ e q => by have := e.1; omega)⟩
/-- The document's first profile is another one. -/
theorem LI.setF (h : LI w A0 A1 A2 m1 m2 pa pb shp shq fa fb da db fv gv vf vg wr) {da' : List (List Sp)} {fv' : Value} {vf' : List Value} {w1 : World} (k : Below wr.heap.size wr w1) (s : SO (fun k => wr.heap.size ≤ k) w1 fv' da' vf') : LI w A0 A1 A2 m1 m2 pa pb shp shq fa fb da' db fv' gv vf' vg (w1.setCell ⟨m1, 0, none⟩ fv') := by
  have h0 := h.s0; have h1 := h.s1; have h2 := h.s2; have h3 := h.s3; have h4 := h.s4; have h5 := h.s5
  have g := h.on k
  have t : Fr (fun b => b = m1) w1 (w1.setCell ⟨m1, 0, none⟩ fv') := Fr.setCell (S := fun b => b = m1) (Fr.refl _ w1) ⟨m1, 0, none⟩ (.inr rfl) fv'
  have hx := setCell_block (g := m1) (o := 0) g.x1 fv'
  have hs := t.size
  have g5 := g.s5
  exact ⟨g.bl.trans (t.below g.bl.size (fun b hb e => by omega)), h0, h1, h2, h3, h4, by omega, g.ba.fr t (fun b _ e q => by omega), g.bb.fr t (fun b _ e q => by omega), g.oa, g.ob, g.la, g.lb, by rw [hx]; rfl, (t.block _ (Array.getElem?_eq_some_iff.1 g.x2).1 (by omega)).trans g.x2,
    (s.frZ staysS t (fun b _ e q => by omega)).mono (fun b _ e => ⟨by omega, by omega, by omega⟩), g.sg.frZ staysS t (fun b _ e q => e.2.1 q)⟩
theorem LI.setG (h : LI w A0 A1 A2 m1 m2 pa pb shp shq fa fb da db fv gv vf vg wr) {db' : List (List Sp)} {gv' : Value} {vg' : List Value} {w1 : World} (k : Below wr.heap.size wr w1) (s : SO (fun k => wr.heap.size ≤ k) w1 gv' db' vg') : LI w A0 A1 A2 m1 m2 pa pb shp shq fa fb da db' fv gv' vf vg' (w1.setCell ⟨m2, 0, none⟩ gv') := by
  have h0 := h.s0; have h1 := h.s1; have h2 := h.s2; have h3 := h.s3; have h4 := h.s4; have h5 := h.s5
  have g := h.on k
  have t : Fr (fun b => b = m2) w1 (w1.setCell ⟨m2, 0, none⟩ gv') := Fr.setCell (S := fun b => b = m2) (Fr.refl _ w1) ⟨m2, 0, none⟩ (.inr rfl) gv'
  have hx := setCell_block (g := m2) (o := 0) g.x2 gv'
  have hs := t.size
  have g5 := g.s5
  exact ⟨g.bl.trans (t.below g.bl.size (fun b hb e => by omega)), h0, h1, h2, h3, h4, by omega, g.ba.fr t (fun b _ e q => by omega), g.bb.fr t (fun b _ e q => by omega), g.oa, g.ob, g.la, g.lb, (t.block _ (Array.getElem?_eq_some_iff.1 g.x1).1 (by omega)).trans g.x1, by rw [hx]; rfl,
    g.sf.frZ staysS t (fun b _ e q => e.2.2 q), (s.frZ staysS t (fun b _ e q => by omega)).mono (fun b _ e => ⟨by omega, by omega, by omega⟩)⟩
end
end Go.Proofs.Ytjjfpokmpcpicaa
