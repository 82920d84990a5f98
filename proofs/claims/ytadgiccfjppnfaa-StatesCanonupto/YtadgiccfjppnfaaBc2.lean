/-
  The document's Canon: fibers, frames, objects in the making.
-/
import Derived.Test.YtadgiccfjppnfaaBc0
namespace Go.Proofs.Ytadgiccfjppnfaa
open Go.RowKit
set_option linter.unusedVariables false
set_option linter.unusedSimpArgs false
/-- One thing more, whose blocks are apart from all others'. -/
theorem OW.push' {T U : Type} {en : T → List Value} {sz : Nat} {P : World → U → T → Prop} {bl : T → Nat → Prop} {Z : Nat → Prop} {w1 Wa w2 : World} {v v' : Value} {us : List U} {xs : List T} {u : U} {x : T} {m : Nat} (hP : Stays P bl) (h : OW en sz P bl Z w1 v us xs) (hx : P w1 u x) (hn : ∀ k, bl x k → Z k ∧ k < w1.heap.size ∧ v.ownBlock ≠ some k) (hd : ∀ k, bl x k → ∀ y ∈ xs, ¬ bl y k) (ha : Below w1.heap.size w1 Wa) (hZ : Z Wa.heap.size)
    (hr : Ro w2 sz v' m (flt en xs ++ en x)) (hm : m = us.length + 1) (hg : Wa.grownBy w2 v.ownBlock) (hat : v'.ownBlock = v.ownBlock ∨ v'.ownBlock = some Wa.heap.size) :
    OW en sz P bl Z w2 v' (us ++ [u]) (xs ++ [x]) ∧ Fr (fun k => v.ownBlock = some k) w1 w2 := by
  subst hm
  have hln := h.len
  have hsa := ha.size
  have f3 : Fr (fun k => v.ownBlock = some k) w1 w2 := (Fr.of_below (S := fun k => v.ownBlock = some k) ha).trans ((Fr.refl _ Wa).grown hg (fun k e => .inr e))
  have hnew : ∀ k, v'.ownBlock = some k → v.ownBlock = some k ∨ k = Wa.heap.size := fun k hk => by
    rcases hat with q | q
    · exact .inl (q ▸ hk)
    · rw [q] at hk; cases hk; exact .inr rfl
  have key : ∀ (i : Nat) (y : T), (xs ++ [x])[i]? = some y → (i < xs.length ∧ xs[i]? = some y) ∨ (i = xs.length ∧ y = x) := fun i y hy => by
    by_cases q : i < xs.length
    · rw [List.getElem?_append_left q] at hy; exact .inl ⟨q, hy⟩
    · have hi : i = xs.length := by have := (List.getElem?_eq_some_iff.1 hy).1; simp at this; omega
      subst hi
      rw [List.getElem?_append_right (Nat.le_refl _), Nat.sub_self] at hy
      cases hy
      exact .inr ⟨rfl, rfl⟩
  refine ⟨⟨by simp [h.len], by rw [List.length_append, flt_append, flt_one]; exact hr, fun k hk => ?_, fun i g y hf hy => ?_, fun i y k hy hk => ?_, fun i j y z k hij hy hz hk => ?_⟩, f3⟩
  · rcases hnew k hk with q | q
    · exact h.rb k q
    · rw [q]; exact hZ
  · by_cases q : i < us.length
    · rw [List.getElem?_append_left q] at hf
      rw [List.getElem?_append_left (by omega)] at hy
      exact hP _ w1 w2 g y (h.el i g y hf hy) f3 (fun k hk e => (h.eb i y k hy hk).2.2 e)
    · have hi : i = us.length := by have := (List.getElem?_eq_some_iff.1 hf).1; simp at this; omega
      subst hi
      rw [List.getElem?_append_right (Nat.le_refl _), Nat.sub_self] at hf
      rw [List.getElem?_append_right (by omega), hln, Nat.sub_self] at hy
      cases hf; cases hy
      exact hP _ w1 w2 _ _ hx f3 (fun k hk e => (hn k hk).2.2 e)
  · rcases key i y hy with ⟨q1, q2⟩ | ⟨q1, rfl⟩
    · obtain ⟨z1, z2, z3⟩ := h.eb i y k q2 hk
      refine ⟨z1, Nat.lt_of_lt_of_le z2 f3.size, fun e => ?_⟩
      rcases hnew k e with r | r
      · exact z3 r
      · omega
    · obtain ⟨z1, z2, z3⟩ := hn k hk
      refine ⟨z1, Nat.lt_of_lt_of_le z2 f3.size, fun e => ?_⟩
      rcases hnew k e with r | r
      · exact z3 r
      · omega
  · rcases key i y hy with ⟨q1, q2⟩ | ⟨q1, rfl⟩ <;> rcases key j z hz with ⟨r1, r2⟩ | ⟨r1, rfl⟩
    · exact h.ap i j y z k hij q2 r2 hk
    · exact fun e => hd k e y (List.mem_of_getElem? q2) hk
    · exact fun e => hd k hk z (List.mem_of_getElem? r2) e
    · omega
/-- The book and the two boxes while Canon goes. -/
structure CB (w : World) (c0 : Nat → Value) (inp : Array Value) (nt no : Nat) (c : Nat → Value) (wr : World) (m : List Nat × List Nat) : Prop where
  b : BkM w.heap.size (w.heap.size + 1 + 1) nt no c wr m.1 m.2
  c6 : ∀ j, j ≤ 6 → c j = c0 j
  p : wr.heap[w.heap.size]? = some (.cells inp 26)
  q : wr.heap[w.heap.size + 1]? = some (.cells #[.slice none 0 0, .slice none 0 0, .slice none 0 0, .int .i64 0, .int .i64 0, .int .i64 0, .int .i64 0] 26)
  bw : Below w.heap.size w wr
  n2 : ∀ k, bkb c (w.heap.size + 1 + 1) k → w.heap.size + 1 + 1 ≤ k
theorem CB.step {w : World} {c0 : Nat → Value} {inp : Array Value} {nt no : Nat} {c : Nat → Value} {wr w1 : World} {m m' : List Nat × List Nat} (h : CB w c0 inp nt no c wr m) (hb : BkP w.heap.size (w.heap.size + 1 + 1) nt no c wr m'.1 m'.2 w1) :
    ∃ c', CB w c0 inp nt no c' w1 m' ∧ Fr (bkb c (w.heap.size + 1 + 1)) wr w1 ∧ ∀ k, bkb c' (w.heap.size + 1 + 1) k → bkb c (w.heap.size + 1 + 1) k ∨ wr.heap.size ≤ k := by
  obtain ⟨c', b1, b2, b3, b4⟩ := hb
  have h2 : w.heap.size + 1 < wr.heap.size := (Array.getElem?_eq_some_iff.1 h.q).1
  have h3 : w.heap.size + 1 + 1 < wr.heap.size := (Array.getElem?_eq_some_iff.1 h.b.box).1
  refine ⟨c', ⟨b1, fun j hj => (b4 j hj).trans (h.c6 j hj), (b2.block _ (by omega) (fun e => by have := h.n2 _ e; omega)).trans h.p, (b2.block _ (by omega) (fun e => by have := h.n2 _ e; omega)).trans h.q, h.bw.trans (b2.below h.bw.size (fun k hk e => by have := h.n2 _ e; omega)), fun k hk => ?_⟩, b2, b3⟩
  rcases b3 k hk with r | r
  · exact h.n2 k r
  · omega
theorem CB.fr {w : World} {c0 : Nat → Value} {inp : Array Value} {nt no : Nat} {c : Nat → Value} {wr w1 : World} {m : List Nat × List Nat} {S : Nat → Prop} (h : CB w c0 inp nt no c wr m) (f : Fr S wr w1) (hS : ∀ k, S k → w.heap.size + 1 + 1 < k ∧ ¬ bkb c (w.heap.size + 1 + 1) k) : CB w c0 inp nt no c w1 m := by
  have h3 : w.heap.size + 1 + 1 < wr.heap.size := (Array.getElem?_eq_some_iff.1 h.b.box).1
  exact ⟨h.b.fr f (fun k hk e => (hS k e).2 hk), h.c6, (f.block _ (by omega) (fun e => by have := (hS _ e).1; omega)).trans h.p, (f.block _ (by omega) (fun e => by have := (hS _ e).1; omega)).trans h.q, h.bw.trans (f.below h.bw.size (fun k hk e => by have := (hS _ e).1; omega)), h.n2⟩
theorem CB.below {w : World} {c0 : Nat → Value} {inp : Array Value} {nt no : Nat} {c : Nat → Value} {wr w1 : World} {m : List Nat × List Nat} (h : CB w c0 inp nt no c wr m) (f : Below wr.heap.size wr w1) : CB w c0 inp nt no c w1 m := h.fr (Fr.of_below (S := fun _ => False) f) (fun _ e => e.elim)
theorem CB.grow9 {w : World} {c0 : Nat → Value} {inp : Array Value} {nt no : Nat} {c : Nat → Value} {wr Wa w2 : World} (h : CB w c0 inp nt no c wr ([], [])) (ha : Below wr.heap.size wr Wa) {v' : Value} {q : Nat} (hr : Ro w2 1 v' q (flt enL (allP nt []) ++ enL (-1))) (hq : q = nt + 1) (hg : Wa.grownBy w2 (c 9).ownBlock) (hat : v'.ownBlock = (c 9).ownBlock ∨ v'.ownBlock = some Wa.heap.size) :
    CB w c0 inp (nt + 1) no (upd c 9 v') (w2.setCell ⟨w.heap.size + 1 + 1, 9, none⟩ v') ([], []) ∧ w2.heap[w.heap.size + 1 + 1]? = some (.cells (bkC c) 66) := by
  obtain ⟨g1, g2, g3, g4⟩ := h.b.grow9 ha hr hq hg hat
  have h3 : w.heap.size + 1 + 1 < wr.heap.size := (Array.getElem?_eq_some_iff.1 h.b.box).1
  refine ⟨⟨g1, fun j hj => ?_, (g3.block _ (by omega) (fun e => by have := h.n2 _ e; omega)).trans h.p, (g3.block _ (by omega) (fun e => by have := h.n2 _ e; omega)).trans h.q, h.bw.trans (g3.below h.bw.size (fun k hk e => by have := h.n2 _ e; omega)), fun k hk => ?_⟩, g2⟩
  · unfold upd; rw [if_neg (by omega)]; exact h.c6 j hj
  · rcases g4 k hk with r | r
    · exact h.n2 k r
    · omega
theorem CB.grow10 {w : World} {c0 : Nat → Value} {inp : Array Value} {nt no : Nat} {c : Nat → Value} {wr Wa w2 : World} (h : CB w c0 inp nt no c wr ([], [])) (ha : Below wr.heap.size wr Wa) {v' : Value} {q : Nat} (hr : Ro w2 1 v' q (flt enL (allP no []) ++ enL (-1))) (hq : q = no + 1) (hg : Wa.grownBy w2 (c 10).ownBlock) (hat : v'.ownBlock = (c 10).ownBlock ∨ v'.ownBlock = some Wa.heap.size) :
    CB w c0 inp nt (no + 1) (upd c 10 v') (w2.setCell ⟨w.heap.size + 1 + 1, 10, none⟩ v') ([], []) ∧ w2.heap[w.heap.size + 1 + 1]? = some (.cells (bkC c) 66) := by
  obtain ⟨g1, g2, g3, g4⟩ := h.b.grow10 ha hr hq hg hat
  have h3 : w.heap.size + 1 + 1 < wr.heap.size := (Array.getElem?_eq_some_iff.1 h.b.box).1
  refine ⟨⟨g1, fun j hj => ?_, (g3.block _ (by omega) (fun e => by have := h.n2 _ e; omega)).trans h.p, (g3.block _ (by omega) (fun e => by have := h.n2 _ e; omega)).trans h.q, h.bw.trans (g3.below h.bw.size (fun k hk e => by have := h.n2 _ e; omega)), fun k hk => ?_⟩, g2⟩
  · unfold upd; rw [if_neg (by omega)]; exact h.c6 j hj
  · rcases g4 k hk with r | r
    · exact h.n2 k r
    · omega
/-- append of numbers onto a row of places. -/
theorem appNL {w : World} {ops : Array Oper} {rest : List Oper} {o : Oper} {a : Act} {Q : Exit → Act → World → Prop}
    (hg : o.guard = none) (s x : Operand) (hop : o.op = Op.call { callee := Callee.builtin Builtin.append, args := #[s, x], argTypes := #[64, 64] })
    (v : Value) (n : Nat) (l : List Int) (hs : a.eval s = v) (hr : Ro w 1 v n (flt enL l)) (ad : Addr) (c : Nat) (p : Int) (hx : a.eval x = .slice (some ad) 1 c) (hc : ∀ j u, (enL p)[j]? = some u → w.cell? (ad.add j) = some u)
    (hN : n ≤ 3000000000000)
    (hK : ∀ v' w', Ro w' 1 v' (n + 1) (flt enL l ++ enL p) → w.grownBy w' v.ownBlock → (v'.ownBlock = v.ownBlock ∨ v'.ownBlock = some w.heap.size) → wpList Try.prog ops Q rest (a.put o.dst v') w') :
    wpList Try.prog ops Q (o :: rest) a w := by
  obtain ⟨i0, hi0, hz0, hz1, hz2⟩ := info_parts infN
  exact wpList_app hg s x 64 hop 3 i0 _ 1 8 Try.underlying64 hi0 hz0 hz1 hz2 rfl (by decide) v n (flt enL l) hs hr ad 1 c (enL p) hx rfl hc (by simp [enL, Value.oneCell']) (by omega) (by unfold maxLen; omega) (by omega) hK

set_option linter.unusedVariables false
set_option linter.unusedSimpArgs false
/-- The book, the boxes and the state in the making; what lies below D is left as it is. -/
structure CX (w : World) (c0 : Nat → Value) (inp : Array Value) (nt no X : Nat) (s : St) (c : Nat → Value) (wr : World) (m : List Nat × List Nat) (tv ov bv : Value) : Prop where
  a : CB w c0 inp nt no c wr m
  x : wr.heap[X]? = some (.cells #[tv, ov, bv, .int .i64 s.cur, .int .i64 s.steps, .int .i64 s.spent, .int .i64 s.read] 26)
  nX : ¬ bkb c (w.heap.size + 1 + 1) X
  lX : w.heap.size + 1 + 1 < X
theorem CX.call {w : World} {c0 : Nat → Value} {inp : Array Value} {nt no X : Nat} {s : St} {c : Nat → Value} {wr w1 : World} {m m' : List Nat × List Nat} {tv ov bv : Value} (h : CX w c0 inp nt no X s c wr m tv ov bv) (hb : BkP w.heap.size (w.heap.size + 1 + 1) nt no c wr m'.1 m'.2 w1) :
    ∃ c', CX w c0 inp nt no X s c' w1 m' tv ov bv ∧ Fr (bkb c (w.heap.size + 1 + 1)) wr w1 ∧ ∀ k, bkb c' (w.heap.size + 1 + 1) k → bkb c (w.heap.size + 1 + 1) k ∨ wr.heap.size ≤ k := by
  obtain ⟨c', h1, h2, h3⟩ := h.a.step hb
  have hX : X < wr.heap.size := (Array.getElem?_eq_some_iff.1 h.x).1
  refine ⟨c', ⟨h1, (h2.block X hX h.nX).trans h.x, fun e => ?_, h.lX⟩, h2, h3⟩
  rcases h3 X e with r | r
  · exact h.nX r
  · omega
theorem CX.fr {w : World} {c0 : Nat → Value} {inp : Array Value} {nt no X : Nat} {s : St} {c : Nat → Value} {wr w1 : World} {m : List Nat × List Nat} {tv ov bv : Value} {S : Nat → Prop} (h : CX w c0 inp nt no X s c wr m tv ov bv) (f : Fr S wr w1) (hS : ∀ k, S k → X < k ∧ ¬ bkb c (w.heap.size + 1 + 1) k) : CX w c0 inp nt no X s c w1 m tv ov bv := by
  have hX : X < wr.heap.size := (Array.getElem?_eq_some_iff.1 h.x).1
  have hl := h.lX
  exact ⟨h.a.fr f (fun k hk => ⟨by have := (hS k hk).1; omega, (hS k hk).2⟩), (f.block X hX (fun e => by have := (hS X e).1; omega)).trans h.x, h.nX, h.lX⟩
theorem CX.below {w : World} {c0 : Nat → Value} {inp : Array Value} {nt no X : Nat} {s : St} {c : Nat → Value} {wr w1 : World} {m : List Nat × List Nat} {tv ov bv : Value} (h : CX w c0 inp nt no X s c wr m tv ov bv) (f : Below wr.heap.size wr w1) : CX w c0 inp nt no X s c w1 m tv ov bv := h.fr (Fr.of_below (S := fun _ => False) f) (fun _ e => e.elim)
/-- The cells of the state in the making are set. -/
theorem CX.setB {w : World} {c0 : Nat → Value} {inp : Array Value} {nt no X : Nat} {s : St} {c : Nat → Value} {wr : World} {m : List Nat × List Nat} {tv ov bv v' : Value} (h : CX w c0 inp nt no X s c wr m tv ov bv) : CX w c0 inp nt no X s c (wr.setCell ⟨X, 2, none⟩ v') m tv ov v' ∧ Fr (fun k => k = X) wr (wr.setCell ⟨X, 2, none⟩ v') := by
  have hl := h.lX
  have f : Fr (fun k => k = X) wr (wr.setCell ⟨X, 2, none⟩ v') := (Fr.refl (fun k => k = X) wr).setCell ⟨X, 2, none⟩ (.inr rfl) v'
  exact ⟨⟨h.a.fr f (fun k hk => ⟨by omega, by rw [hk]; exact h.nX⟩), by rw [setCell_block h.x v']; rfl, h.nX, h.lX⟩, f⟩
theorem CX.setO {w : World} {c0 : Nat → Value} {inp : Array Value} {nt no X : Nat} {s : St} {c : Nat → Value} {wr : World} {m : List Nat × List Nat} {tv ov bv v' : Value} (h : CX w c0 inp nt no X s c wr m tv ov bv) : CX w c0 inp nt no X s c (wr.setCell ⟨X, 1, none⟩ v') m tv v' bv ∧ Fr (fun k => k = X) wr (wr.setCell ⟨X, 1, none⟩ v') := by
  have hl := h.lX
  have f : Fr (fun k => k = X) wr (wr.setCell ⟨X, 1, none⟩ v') := (Fr.refl (fun k => k = X) wr).setCell ⟨X, 1, none⟩ (.inr rfl) v'
  exact ⟨⟨h.a.fr f (fun k hk => ⟨by omega, by rw [hk]; exact h.nX⟩), by rw [setCell_block h.x v']; rfl, h.nX, h.lX⟩, f⟩
theorem CX.setT {w : World} {c0 : Nat → Value} {inp : Array Value} {nt no X : Nat} {s : St} {c : Nat → Value} {wr : World} {m : List Nat × List Nat} {tv ov bv v' : Value} (h : CX w c0 inp nt no X s c wr m tv ov bv) : CX w c0 inp nt no X s c (wr.setCell ⟨X, 0, none⟩ v') m v' ov bv ∧ Fr (fun k => k = X) wr (wr.setCell ⟨X, 0, none⟩ v') := by
  have hl := h.lX
  have f : Fr (fun k => k = X) wr (wr.setCell ⟨X, 0, none⟩ v') := (Fr.refl (fun k => k = X) wr).setCell ⟨X, 0, none⟩ (.inr rfl) v'
  exact ⟨⟨h.a.fr f (fun k hk => ⟨by omega, by rw [hk]; exact h.nX⟩), by rw [setCell_block h.x v']; rfl, h.nX, h.lX⟩, f⟩
/-- Blocks from A to B, none of the book's. -/
def ZC (w : World) (c : Nat → Value) (A B k : Nat) : Prop := A ≤ k ∧ k < B ∧ ¬ bkb c (w.heap.size + 1 + 1) k
/-- Rows of one's own that are none of the book's stay so when the book is used. -/
theorem OW.book {T U : Type} {en : T → List Value} {sz : Nat} {P : World → U → T → Prop} {bl : T → Nat → Prop} {w wr w1 : World} {c c' : Nat → Value} {A B : Nat} {v : Value} {us : List U} {xs : List T} (hP : Stays P bl) (h : OW en sz P bl (ZC w c A B) wr v us xs) (f : Fr (bkb c (w.heap.size + 1 + 1)) wr w1) (hn : ∀ k, bkb c' (w.heap.size + 1 + 1) k → bkb c (w.heap.size + 1 + 1) k ∨ wr.heap.size ≤ k) : OW en sz P bl (ZC w c' A B) w1 v us xs := by
  have h1 : OW en sz P bl (ZC w c' A B) wr v us xs := h.mono (fun k hk hz => ⟨hz.1, hz.2.1, fun e => by
    rcases hn k e with r | r
    · exact hz.2.2 r
    · omega⟩)
  exact h1.fr hP f (fun k hk hi e => (h.in hi).1.2.2 e)
/-- The same, the book's cells behind it told. -/
theorem CX.call' {w : World} {c0 : Nat → Value} {inp : Array Value} {nt no X : Nat} {s : St} {c c' : Nat → Value} {wr w1 : World} {m m' : List Nat × List Nat} {tv ov bv : Value} (h : CX w c0 inp nt no X s c wr m tv ov bv) (b1 : BkM w.heap.size (w.heap.size + 1 + 1) nt no c' w1 m'.1 m'.2) (b2 : Fr (bkb c (w.heap.size + 1 + 1)) wr w1) (b3 : ∀ k, bkb c' (w.heap.size + 1 + 1) k → bkb c (w.heap.size + 1 + 1) k ∨ wr.heap.size ≤ k) (b4 : ∀ i, i ≤ 6 → c' i = c i) : CX w c0 inp nt no X s c' w1 m' tv ov bv := by
  have hX : X < wr.heap.size := (Array.getElem?_eq_some_iff.1 h.x).1
  have h2 : w.heap.size + 1 < wr.heap.size := (Array.getElem?_eq_some_iff.1 h.a.q).1
  refine ⟨⟨b1, fun j hj => (b4 j hj).trans (h.a.c6 j hj), (b2.block _ (by omega) (fun e => by have := h.a.n2 _ e; omega)).trans h.a.p, (b2.block _ (by omega) (fun e => by have := h.a.n2 _ e; omega)).trans h.a.q, h.a.bw.trans (b2.below h.a.bw.size (fun k hk e => by have := h.a.n2 _ e; omega)), fun k hk => ?_⟩, (b2.block X hX h.nX).trans h.x, fun e => ?_, h.lX⟩
  · rcases b3 k hk with r | r
    · exact h.a.n2 k r
    · have := (Array.getElem?_eq_some_iff.1 h.a.b.box).1; omega
  · rcases b3 X e with r | r
    · exact h.nX r
    · omega
theorem OW.book' {T U : Type} {en : T → List Value} {sz : Nat} {P : World → U → T → Prop} {bl : T → Nat → Prop} {w wr w1 : World} {c c' : Nat → Value} {A : Nat} {v : Value} {us : List U} {xs : List T} (hP : Stays P bl) (h : OW en sz P bl (fun k => A ≤ k ∧ ¬ bkb c (w.heap.size + 1 + 1) k) wr v us xs) (f : Fr (bkb c (w.heap.size + 1 + 1)) wr w1) (hn : ∀ k, bkb c' (w.heap.size + 1 + 1) k → bkb c (w.heap.size + 1 + 1) k ∨ wr.heap.size ≤ k) : OW en sz P bl (fun k => A ≤ k ∧ ¬ bkb c' (w.heap.size + 1 + 1) k) w1 v us xs := by
  have h1 : OW en sz P bl (fun k => A ≤ k ∧ ¬ bkb c' (w.heap.size + 1 + 1) k) wr v us xs := h.mono (fun k hk hz => ⟨hz.1, fun e => by
    rcases hn k e with r | r
    · exact hz.2 r
    · omega⟩)
  exact h1.fr hP f (fun k hk hi e => (h.in hi).1.2 e)
/-- One frame more: the book was used for its slots (w1), its box Fb was set, the row lv grew (w2). -/
theorem frame_step {w wr w1 w2 : World} {c c1 : Nat → Value} {D Fb q : Nat} {lv v' sv : Value} {fs : List Fm} {ys : List Fmv} {f : Fm} {O1 : Obj} (h : OM (fun k => D ≤ k ∧ ¬ bkb c1 (w.heap.size + 1 + 1) k) w1 lv fs ys) (hlt : ∀ k, (lv.ownBlock = some k ∨ ∃ y ∈ ys, blM y k) → k < Fb) (hs : Ro w1 2 sv f.sl.length (flt enI f.sl)) (hsb : ∀ k, sv.ownBlock = some k → Fb < k ∧ ¬ bkb c1 (w.heap.size + 1 + 1) k) (hD : D ≤ Fb) (hF1 : Fb < w1.heap.size) (hb1 : ∀ k, bkb c1 (w.heap.size + 1 + 1) k → k < w1.heap.size)
    (hr : Ro w2 3 v' q (flt enM ys ++ enM ⟨f.fn, f.pc, sv⟩)) (hq : q = fs.length + 1) (hg : ((w1.setCell ⟨Fb, 2, none⟩ sv).alloc O1).grownBy w2 lv.ownBlock) (hat : v'.ownBlock = lv.ownBlock ∨ v'.ownBlock = some ((w1.setCell ⟨Fb, 2, none⟩ sv).alloc O1).heap.size) :
    OM (fun k => D ≤ k ∧ ¬ bkb c1 (w.heap.size + 1 + 1) k) w2 v' (fs ++ [f]) (ys ++ [⟨f.fn, f.pc, sv⟩]) ∧ Fr (fun k => k = Fb ∨ lv.ownBlock = some k) w1 w2 := by
  have fF : Fr (fun k => k = Fb) w1 (w1.setCell ⟨Fb, 2, none⟩ sv) := (Fr.refl (fun k => k = Fb) w1).setCell ⟨Fb, 2, none⟩ (.inr rfl) sv
  have hsz : (w1.setCell ⟨Fb, 2, none⟩ sv).heap.size = w1.heap.size := by simp [World.setCell]
  have h1 := h.fr staysM fF (fun k _ hi e => by have := hlt k hi; omega)
  have hx : FmO (w1.setCell ⟨Fb, 2, none⟩ sv) f ⟨f.fn, f.pc, sv⟩ := ⟨rfl, rfl, hs.fr fF (fun k hk e => by have := (hsb k hk).1; omega)⟩
  obtain ⟨r1, r2⟩ := OW.push' staysM h1 hx (fun k hk => ⟨⟨by have := (hsb k hk).1; omega, (hsb k hk).2⟩, by rw [hsz]; exact hs.lt k hk, fun e => by have := hlt k (.inl e); have := (hsb k hk).1; omega⟩) (fun k hk y hy e => by have := hlt k (.inr ⟨y, hy, e⟩); have := (hsb k hk).1; omega) ((Below.refl _ _).alloc (Nat.le_refl _) O1) ⟨by rw [World.size_alloc, hsz]; omega, fun e => by have := hb1 _ e; rw [World.size_alloc, hsz] at this; omega⟩ hr hq hg hat
  exact ⟨r1, (fF.mono (fun k _ e => .inl e)).trans (r2.mono (fun k _ e => .inr e))⟩
end Go.Proofs.Ytadgiccfjppnfaa
