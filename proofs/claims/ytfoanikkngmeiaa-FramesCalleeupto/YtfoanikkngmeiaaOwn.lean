/-
  Rows of one's own, of things that have rows of their own.
-/
import Derived.Test.YtfoanikkngmeiaaSms
namespace Go.Proofs.Ytfoanikkngmeiaa
open Go.RowKit
set_option linter.unusedVariables false
set_option linter.unusedSimpArgs false
/-- A row of one's own: its things have blocks, each its own; none is the row's. -/
structure OW {T U : Type} (en : T → List Value) (sz : Nat) (P : World → U → T → Prop) (bl : T → Nat → Prop) (Z : Nat → Prop) (w : World) (v : Value) (us : List U) (xs : List T) : Prop where
  len : xs.length = us.length
  row : Ro w sz v us.length (flt en xs)
  rb : ∀ k, v.ownBlock = some k → Z k
  el : ∀ (i : Nat) (u : U) (x : T), us[i]? = some u → xs[i]? = some x → P w u x
  eb : ∀ (i : Nat) (x : T) (k : Nat), xs[i]? = some x → bl x k → Z k ∧ k < w.heap.size ∧ v.ownBlock ≠ some k
  ap : ∀ (i j : Nat) (x y : T) (k : Nat), i ≠ j → xs[i]? = some x → xs[j]? = some y → bl x k → ¬ bl y k
/-- What is so of a thing stays so while its blocks are as they were. -/
def Stays {T U : Type} (P : World → U → T → Prop) (bl : T → Nat → Prop) : Prop :=
  ∀ (S : Nat → Prop) (w w' : World) (u : U) (x : T), P w u x → Fr S w w' → (∀ k, bl x k → ¬ S k) → P w' u x
section
variable {T U : Type} {en : T → List Value} {sz : Nat} {P : World → U → T → Prop} {bl : T → Nat → Prop} {Z : Nat → Prop}
theorem OW.nil (w : World) : OW en sz P bl Z w (.slice none 0 0) [] [] :=
  ⟨rfl, by simpa [flt] using Ro.nil w sz, by simp [Value.ownBlock], fun i f x h => by simp at h, fun i x k h => by simp at h, fun i j x y k _ h => by simp at h⟩
theorem OW.fr {w w' : World} {v : Value} {us : List U} {xs : List T} {S : Nat → Prop} (hP : Stays P bl) (h : OW en sz P bl Z w v us xs) (f : Fr S w w') (hS : ∀ k, k < w.heap.size → (v.ownBlock = some k ∨ ∃ x ∈ xs, bl x k) → ¬ S k) : OW en sz P bl Z w' v us xs :=
  ⟨h.len, h.row.fr f (fun k hk => hS k (h.row.lt k hk) (.inl hk)), h.rb, fun i u x hu hx => hP S w w' u x (h.el i u x hu hx) f (fun k hk => hS k (h.eb i x k hx hk).2.1 (.inr ⟨x, List.mem_of_getElem? hx, hk⟩)), fun i x k hx hk => ⟨(h.eb i x k hx hk).1, Nat.lt_of_lt_of_le (h.eb i x k hx hk).2.1 f.size, (h.eb i x k hx hk).2.2⟩, h.ap⟩
theorem OW.in {w : World} {v : Value} {us : List U} {xs : List T} (h : OW en sz P bl Z w v us xs) {k : Nat} (hk : v.ownBlock = some k ∨ ∃ x ∈ xs, bl x k) : Z k ∧ k < w.heap.size := by
  rcases hk with hk | ⟨x, hx, hk⟩
  · exact ⟨h.rb k hk, h.row.lt k hk⟩
  · obtain ⟨i, hi, rfl⟩ := List.getElem_of_mem hx
    have := h.eb i _ k (List.getElem?_eq_getElem hi) hk
    exact ⟨this.1, this.2.1⟩
theorem OW.frZ {w w' : World} {v : Value} {us : List U} {xs : List T} {S : Nat → Prop} (hP : Stays P bl) (h : OW en sz P bl Z w v us xs) (f : Fr S w w') (hS : ∀ k, k < w.heap.size → Z k → ¬ S k) : OW en sz P bl Z w' v us xs :=
  h.fr hP f (fun k hk hi => hS k hk (h.in hi).1)
theorem OW.below {w w' : World} {v : Value} {us : List U} {xs : List T} (hP : Stays P bl) (h : OW en sz P bl Z w v us xs) (f : Below w.heap.size w w') : OW en sz P bl Z w' v us xs :=
  h.fr hP (Fr.of_below (S := fun _ => False) f) (fun _ _ _ e => e)
theorem OW.mono {w : World} {v : Value} {us : List U} {xs : List T} {Z' : Nat → Prop} (h : OW en sz P bl Z w v us xs) (hz : ∀ k, k < w.heap.size → Z k → Z' k) : OW en sz P bl Z' w v us xs :=
  ⟨h.len, h.row, fun k hk => hz k (h.row.lt k hk) (h.rb k hk), h.el, fun i x k hx hk => ⟨hz k (h.eb i x k hx hk).2.1 (h.eb i x k hx hk).1, (h.eb i x k hx hk).2⟩, h.ap⟩
/-- One thing more. -/
theorem OW.push {wr w1 w2 : World} {v v' : Value} {us : List U} {xs : List T} {u : U} {x : T} {m : Nat} (hP : Stays P bl) (h : OW en sz P bl Z wr v us xs) (hb : Below wr.heap.size wr w1) (hx : P w1 u x) (hn : ∀ k, bl x k → wr.heap.size ≤ k ∧ k < w1.heap.size) (hZ : ∀ k, wr.heap.size ≤ k → Z k)
    (hr : Ro w2 sz v' m (flt en xs ++ en x)) (hm : m = us.length + 1) (hg : w1.grownBy w2 v.ownBlock) (hat : v'.ownBlock = v.ownBlock ∨ v'.ownBlock = some w1.heap.size) :
    OW en sz P bl Z w2 v' (us ++ [u]) (xs ++ [x]) ∧ Fr (fun k => v.ownBlock = some k) wr w2 := by
  subst hm
  have hsz := hb.size
  have hln := h.len
  have f1 : Fr (fun _ => False) wr w1 := Fr.of_below hb
  have f2 : Fr (fun k => v.ownBlock = some k) w1 w2 := (Fr.refl _ w1).grown hg (fun k e => .inr e)
  have f3 : Fr (fun k => v.ownBlock = some k) wr w2 := (f1.mono (fun _ _ e => e.elim)).trans f2
  have hvn : ∀ k, v.ownBlock = some k → k < wr.heap.size := h.row.lt
  have hnew : ∀ k, v'.ownBlock = some k → v.ownBlock = some k ∨ w1.heap.size ≤ k := fun k hk => by
    rcases hat with q | q
    · exact .inl (q ▸ hk)
    · rw [q] at hk; cases hk; exact .inr (Nat.le_refl _)
  refine ⟨⟨by simp [h.len], by rw [List.length_append, flt_append, flt_one]; exact hr, fun k hk => ?_, fun i g y hf hy => ?_, fun i y k hy hk => ?_, fun i j y z k hij hy hz hk => ?_⟩, f3⟩
  · rcases hnew k hk with q | q
    · exact h.rb k q
    · exact hZ k (by omega)
  · by_cases q : i < us.length
    · rw [List.getElem?_append_left q] at hf
      rw [List.getElem?_append_left (by omega)] at hy
      exact hP _ wr w2 g y (h.el i g y hf hy) f3 (fun k hk e => (h.eb i y k hy hk).2.2 e)
    · have hi : i = us.length := by have := (List.getElem?_eq_some_iff.1 hf).1; simp at this; omega
      subst hi
      rw [List.getElem?_append_right (Nat.le_refl _), Nat.sub_self] at hf
      rw [List.getElem?_append_right (by omega), hln, Nat.sub_self] at hy
      cases hf; cases hy
      exact hP _ w1 w2 _ _ hx f2 (fun k hk e => by have := (hn k hk).1; have := hvn k e; omega)
  · by_cases q : i < xs.length
    · rw [List.getElem?_append_left q] at hy
      obtain ⟨z1, z2, z3⟩ := h.eb i y k hy hk
      refine ⟨z1, Nat.lt_of_lt_of_le z2 f3.size, fun e => ?_⟩
      rcases hnew k e with r | r
      · exact z3 r
      · omega
    · have hi : i = xs.length := by have := (List.getElem?_eq_some_iff.1 hy).1; simp at this; omega
      subst hi
      rw [List.getElem?_append_right (Nat.le_refl _), Nat.sub_self] at hy
      cases hy
      obtain ⟨n1, n2⟩ := hn k hk
      refine ⟨hZ k n1, Nat.lt_of_lt_of_le n2 f2.size, fun e => ?_⟩
      rcases hnew k e with r | r
      · have := hvn k r; omega
      · omega
  · have key : ∀ (i : Nat) (y : T), (xs ++ [x])[i]? = some y → (i < xs.length ∧ xs[i]? = some y) ∨ (i = xs.length ∧ y = x) := fun i y hy => by
      by_cases q : i < xs.length
      · rw [List.getElem?_append_left q] at hy; exact .inl ⟨q, hy⟩
      · have hi : i = xs.length := by have := (List.getElem?_eq_some_iff.1 hy).1; simp at this; omega
        subst hi
        rw [List.getElem?_append_right (Nat.le_refl _), Nat.sub_self] at hy
        cases hy
        exact .inr ⟨rfl, rfl⟩
    rcases key i y hy with ⟨q1, q2⟩ | ⟨q1, rfl⟩ <;> rcases key j z hz with ⟨r1, r2⟩ | ⟨r1, rfl⟩
    · exact h.ap i j y z k hij q2 r2 hk
    · intro e
      have := (h.eb i y k q2 hk).2.1
      have := (hn k e).1
      omega
    · intro e
      have := (h.eb j z k r2 e).2.1
      have := (hn k hk).1
      omega
    · omega
end
/-- One cell of one thing of a row is set. -/
theorem Ro.put1 {T : Type} {en : T → List Value} {sz : Nat} (hz : ∀ x, (en x).length = sz) {w : World} {v : Value} {n : Nat} {xs : List T} (h : Ro w sz v n (flt en xs)) {g off cap : Nat} (e : v = .slice (some ⟨g, off, none⟩) n cap) {i c : Nat} {x x' : T} {u : Value} (hx : xs[i]? = some x) (hc : c < sz) (hen : en x' = (en x).set c u) :
    Ro (w.setCell ⟨g, off + i * sz + c, none⟩ u) sz v n (flt en (xs.set i x')) ∧ Fr (fun b => b = g) w (w.setCell ⟨g, off + i * sz + c, none⟩ u) := by
  have hi := (List.getElem?_eq_some_iff.1 hx).1
  have hl := h.1
  rw [flt_length hz] at hl
  have hpos : 0 < sz := by omega
  have hnl : xs.length = n := Nat.eq_of_mul_eq_mul_right hpos hl
  obtain ⟨a0, c0, e0, hnc, _⟩ := h.shape
  rw [e] at e0
  cases e0
  have hb : i * sz + c < n * sz := Nat.lt_of_lt_of_le (by rw [Nat.add_mul, Nat.one_mul]; omega : i * sz + c < (i + 1) * sz) (Nat.mul_le_mul_right _ (by omega))
  have hcap : n * sz ≤ cap * sz := Nat.mul_le_mul_right _ hnc
  obtain ⟨r1, r2⟩ := h.sets e (o := off + i * sz + c) (m := n) (vs := [u]) (ys := flt en (xs.set i x')) (by omega) (by simp; omega) hnc (by rw [flt_length hz, List.length_set, hnl]) (fun j hj => by
    rw [flt_set hz xs i x' hi j]
    simp only [List.length_singleton]
    by_cases q : i * sz ≤ j ∧ j < i * sz + sz
    · rw [if_pos q, hen, List.getElem?_set]
      by_cases q2 : c = j - i * sz
      · rw [if_pos q2, if_pos (by rw [hz]; omega), if_pos (by omega), show off + j - (off + i * sz + c) = 0 by omega]; rfl
      · rw [if_neg q2, if_neg (by omega)]
        have := flt_at hz hx (j - i * sz) (by omega)
        rw [show i * sz + (j - i * sz) = j by omega] at this
        exact this.symm
    · rw [if_neg q, if_neg (by omega)]) (fun j hj q => by omega)
  rw [show w.setCells g (off + i * sz + c) [u] = w.setCell ⟨g, off + i * sz + c, none⟩ u from rfl] at r1 r2
  rw [← e] at r1
  exact ⟨r1, ⟨r2.os, r2.tape, r2.output, r2.size, fun k hk hn => r2.block k hk (fun q => hn (by cases q; rfl))⟩⟩
section
variable {T U : Type} {en : T → List Value} {sz : Nat} {P : World → U → T → Prop} {bl : T → Nat → Prop} {Z : Nat → Prop}
theorem OW.set {w : World} {v : Value} {us : List U} {xs : List T} (hP : Stays P bl) (hz : ∀ x, (en x).length = sz) (h : OW en sz P bl Z w v us xs) {g off n cap : Nat} (e : v = .slice (some ⟨g, off, none⟩) n cap) {i c : Nat} {u : U} {x x' : T} {y : Value} (hu : us[i]? = some u) (hx : xs[i]? = some x) (hc : c < sz) (hen : en x' = (en x).set c y)
    (hp : P (w.setCell ⟨g, off + i * sz + c, none⟩ y) u x') (hb : ∀ k, bl x' k → Z k ∧ k < w.heap.size ∧ v.ownBlock ≠ some k) (ha : ∀ (j : Nat) (z : T) (k : Nat), j ≠ i → xs[j]? = some z → bl x' k → ¬ bl z k) :
    OW en sz P bl Z (w.setCell ⟨g, off + i * sz + c, none⟩ y) v us (xs.set i x') ∧ Fr (fun b => b = g) w (w.setCell ⟨g, off + i * sz + c, none⟩ y) := by
  obtain ⟨a0, c0, e0, _⟩ := h.row.shape
  have en' : n = us.length := by rw [e] at e0; cases e0; rfl
  subst en'
  obtain ⟨r1, r2⟩ := h.row.put1 hz e hx hc hen
  have hi := (List.getElem?_eq_some_iff.1 hx).1
  have hself : (xs.set i x')[i]? = some x' := by rw [List.getElem?_set_self hi]
  have hoth : ∀ j, j ≠ i → (xs.set i x')[j]? = xs[j]? := fun j hj => List.getElem?_set_ne (fun e => hj e.symm)
  refine ⟨⟨by simp [h.len], r1, h.rb, fun j q z hq hz' => ?_, fun j z k hz' hk => ?_, fun j l z z' k hjl hz1 hz2 hk => ?_⟩, r2⟩
  · by_cases hj : j = i
    · subst hj
      rw [hself] at hz'
      cases hz'
      rw [hu] at hq
      cases hq
      exact hp
    · rw [hoth j hj] at hz'
      exact hP _ w _ q z (h.el j q z hq hz') r2 (fun k hk e2 => (h.eb j z k hz' hk).2.2 (by rw [e, e2]; rfl))
  · by_cases hj : j = i
    · subst hj
      rw [hself] at hz'
      cases hz'
      obtain ⟨b1, b2, b3⟩ := hb k hk
      exact ⟨b1, Nat.lt_of_lt_of_le b2 r2.size, b3⟩
    · rw [hoth j hj] at hz'
      obtain ⟨b1, b2, b3⟩ := h.eb j z k hz' hk
      exact ⟨b1, Nat.lt_of_lt_of_le b2 r2.size, b3⟩
  · by_cases hj : j = i
    · subst hj
      rw [hself] at hz1
      cases hz1
      rw [hoth l (fun e => hjl e.symm)] at hz2
      exact ha l z' k (fun e => hjl e.symm) hz2 hk
    · rw [hoth j hj] at hz1
      by_cases hl : l = i
      · subst hl
        rw [hself] at hz2
        cases hz2
        exact fun e2 => ha j z k hj hz1 e2 hk
      · rw [hoth l hl] at hz2
        exact h.ap j l z z' k hjl hz1 hz2 hk
end
section
variable {T U : Type} {en : T → List Value} {sz : Nat} {P : World → U → T → Prop} {bl : T → Nat → Prop} {Z : Nat → Prop}
/-- A thing's own rows turn; its cells in the row don't. -/
theorem OW.inner {w w' : World} {v : Value} {us : List U} {xs : List T} {S : Nat → Prop} (hP : Stays P bl) (hz : ∀ x, (en x).length = sz) (h : OW en sz P bl Z w v us xs) (f : Fr S w w') {i : Nat} {u : U} {x x' : T} (hu : us[i]? = some u) (hx : xs[i]? = some x) (hen : en x' = en x)
    (hS : ∀ (j : Nat) (z : T) (k : Nat), j ≠ i → xs[j]? = some z → bl z k → ¬ S k) (hv : ∀ k, v.ownBlock = some k → ¬ S k)
    (hp : P w' u x') (hb : ∀ k, bl x' k → Z k ∧ k < w'.heap.size ∧ v.ownBlock ≠ some k) (ha : ∀ (j : Nat) (z : T) (k : Nat), j ≠ i → xs[j]? = some z → bl x' k → ¬ bl z k) :
    OW en sz P bl Z w' v us (xs.set i x') := by
  have hi := (List.getElem?_eq_some_iff.1 hx).1
  have hself : (xs.set i x')[i]? = some x' := by rw [List.getElem?_set_self hi]
  have hoth : ∀ j, j ≠ i → (xs.set i x')[j]? = xs[j]? := fun j hj => List.getElem?_set_ne (fun e => hj e.symm)
  have hfl : flt en (xs.set i x') = flt en xs := List.ext_getElem? (fun j => by
    rw [flt_set hz xs i x' hi j]
    split
    · rw [hen]
      have := flt_at hz hx (j - i * sz) (by omega)
      rw [show i * sz + (j - i * sz) = j by omega] at this
      exact this.symm
    · rfl)
  refine ⟨by simp [h.len], by rw [hfl]; exact h.row.fr f hv, h.rb, fun j q z hq hz' => ?_, fun j z k hz' hk => ?_, fun j l z z' k hjl hz1 hz2 hk => ?_⟩
  · by_cases hj : j = i
    · subst hj
      rw [hself] at hz'
      cases hz'
      rw [hu] at hq
      cases hq
      exact hp
    · rw [hoth j hj] at hz'
      exact hP _ w _ q z (h.el j q z hq hz') f (fun k hk => hS j z k hj hz' hk)
  · by_cases hj : j = i
    · subst hj
      rw [hself] at hz'
      cases hz'
      exact hb k hk
    · rw [hoth j hj] at hz'
      obtain ⟨b1, b2, b3⟩ := h.eb j z k hz' hk
      exact ⟨b1, Nat.lt_of_lt_of_le b2 f.size, b3⟩
  · by_cases hj : j = i
    · subst hj
      rw [hself] at hz1
      cases hz1
      rw [hoth l (fun e => hjl e.symm)] at hz2
      exact ha l z' k (fun e => hjl e.symm) hz2 hk
    · rw [hoth j hj] at hz1
      by_cases hl : l = i
      · subst hl
        rw [hself] at hz2
        cases hz2
        exact fun e2 => ha j z k hj hz1 e2 hk
      · rw [hoth l hl] at hz2
        exact h.ap j l z z' k hjl hz1 hz2 hk
end
def blO (x : Obv) (k : Nat) : Prop := x.iv.ownBlock = some k ∨ x.kv.ownBlock = some k
def ObO (w : World) (o : Ob) (x : Obv) : Prop :=
  x.kind = o.kind ∧ x.fn = o.fn ∧ x.cap = o.cap ∧ x.shut = o.shut ∧ Ro w 2 x.iv o.its.length (flt enI o.its) ∧ Ro w 1 x.kv o.keys.length (flt enL o.keys)
theorem ObO.v {w : World} {o : Ob} {x : Obv} (h : ObO w o x) : ObV w o x := ⟨h.1, h.2.1, h.2.2.1, h.2.2.2.1, Rx.of_ro h.2.2.2.2.1, Rx.of_ro h.2.2.2.2.2⟩
theorem staysO : Stays ObO blO := fun S w w' u x h f hk => ⟨h.1, h.2.1, h.2.2.1, h.2.2.2.1, h.2.2.2.2.1.fr f (fun k e => hk k (.inl e)), h.2.2.2.2.2.fr f (fun k e => hk k (.inr e))⟩
abbrev OO := OW enO 6 ObO blO
theorem OW.osv {Z : Nat → Prop} {w : World} {v : Value} {fs : List Ob} {xs : List Obv} (h : OO Z w v fs xs) : OsV w v fs := ⟨xs, h.len, by rw [h.len]; exact Rx.of_ro h.row, fun i f x hf hx => (h.el i f x hf hx).v⟩
end Go.Proofs.Ytfoanikkngmeiaa
