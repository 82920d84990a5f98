/-
  Rows that are made, and set.
-/
import Derived.Test.YtjjfpokmpcpicaaPB
import Derived.Laws.MakeOwn
namespace Go.Proofs.Ytjjfpokmpcpicaa
open Go.RowKit
set_option linter.unusedVariables false
set_option linter.unusedSimpArgs false
theorem made_at (z : Array Value) (m j : Nat) (hj : j < m) : (madeCells z m)[j]? = some (z[j % z.size]!) := by
  simp [madeCells, hj]
/-- A row of zeros. -/
theorem made_ro {T : Type} (en : T → List Value) (z0 : T) (z : Array Value) (sz : Nat) (hz : ∀ x, (en x).length = sz) (h0 : 0 < sz) (he : z.toList = en z0) (w : World) (e : TypeId) (N : Nat) (hN : N ≤ maxLen) :
    Ro (w.alloc (.cells (madeCells z (N * sz)) e)) sz (.slice (some ⟨w.heap.size, 0, none⟩) N N) N (flt en (List.replicate N z0)) := by
  have hzs : z.size = sz := by rw [← Array.length_toList, he, hz]
  refine ⟨by rw [flt_length hz, List.length_replicate], .inr ⟨w.heap.size, 0, N, _, e, rfl, heap_alloc_new w _, Nat.le_refl _, hN, by rw [size_madeCells]; omega, fun j hj => ?_⟩⟩
  rw [Nat.zero_add, made_at _ _ _ hj, hzs]
  have hq : j / sz < N := Nat.div_lt_of_lt_mul (by rw [Nat.mul_comm]; exact hj)
  have hr : j % sz < sz := Nat.mod_lt _ h0
  have ej : j = j / sz * sz + j % sz := by rw [Nat.mul_comm]; exact (Nat.div_add_mod j sz).symm
  conv => rhs; rw [ej]
  rw [flt_at hz (p := z0) (by simp [hq]) (j % sz) hr, ← he]
  rw [Array.getElem?_toList, getElem!_pos z _ (by omega), Array.getElem?_eq_getElem]
theorem Ro.putAt {T : Type} {en : T → List Value} {sz : Nat} (hz : ∀ x, (en x).length = sz) {w : World} {v : Value} {n : Nat} {xs : List T} (h : Ro w sz v n (flt en xs)) (hl : xs.length = n) {g off cap : Nat} (e : v = .slice (some ⟨g, off, none⟩) n cap) {i : Nat} (hi : i < n) (x : T) :
    Ro (w.setCells g (off + i * sz) (en x)) sz v n (flt en (xs.set i x)) ∧ Fr (fun b => b = g) w (w.setCells g (off + i * sz) (en x)) := by
  obtain ⟨a0, c0, e0, hnc, _⟩ := h.shape
  rw [e] at e0
  cases e0
  have hb : i * sz + sz ≤ n * sz := by rw [← Nat.succ_mul]; exact Nat.mul_le_mul_right _ hi
  have hcap : n * sz ≤ cap * sz := Nat.mul_le_mul_right _ hnc
  obtain ⟨r1, r2⟩ := h.sets e (o := off + i * sz) (m := n) (vs := en x) (ys := flt en (xs.set i x)) (by omega) (by rw [hz]; omega) hnc (by rw [flt_length hz, List.length_set, hl]) (fun j hj => by
    rw [flt_set hz xs i x (by omega) j, hz]
    by_cases q : i * sz ≤ j ∧ j < i * sz + sz
    · rw [if_pos q, if_pos (by omega), show off + j - (off + i * sz) = j - i * sz by omega]
    · rw [if_neg q, if_neg (by omega)]) (fun j hj q => by omega)
  rw [← e] at r1
  exact ⟨r1, ⟨r2.os, r2.tape, r2.output, r2.size, fun k hk hn => r2.block k hk (fun q => hn (by cases q; rfl))⟩⟩
section
variable {T U : Type} {en : T → List Value} {sz : Nat} {P : World → U → T → Prop} {bl : T → Nat → Prop} {Z : Nat → Prop}
/-- One thing of a row of one's own becomes another. -/
theorem OW.setU {w w' : World} {v : Value} {us : List U} {xs : List T} (hP : Stays P bl) (h : OW en sz P bl Z w v us xs) {i : Nat} {u : U} {x : T} {S : Nat → Prop} (hi : i < us.length) (f : Fr S w w') (hS : ∀ k, S k → v.ownBlock = some k) (hr : Ro w' sz v us.length (flt en (xs.set i x)))
    (hp : P w' u x) (hb : ∀ k, bl x k → Z k ∧ k < w'.heap.size ∧ v.ownBlock ≠ some k) (ha : ∀ (j : Nat) (z : T) (k : Nat), j ≠ i → xs[j]? = some z → bl x k → ¬ bl z k) :
    OW en sz P bl Z w' v (us.set i u) (xs.set i x) := by
  have hln := h.len
  have hself : (xs.set i x)[i]? = some x := by rw [List.getElem?_set_self (by omega)]
  have hselfu : (us.set i u)[i]? = some u := by rw [List.getElem?_set_self hi]
  have hoth : ∀ j, j ≠ i → (xs.set i x)[j]? = xs[j]? := fun j hj => List.getElem?_set_ne (fun e => hj e.symm)
  have hothu : ∀ j, j ≠ i → (us.set i u)[j]? = us[j]? := fun j hj => List.getElem?_set_ne (fun e => hj e.symm)
  refine ⟨by simp [h.len], by rw [List.length_set]; exact hr, h.rb, fun j q z hq hz' => ?_, fun j z k hz' hk => ?_, fun j l z z' k hjl hz1 hz2 hk => ?_⟩
  · by_cases hj : j = i
    · subst hj
      rw [hself] at hz'
      cases hz'
      rw [hselfu] at hq
      cases hq
      exact hp
    · rw [hoth j hj] at hz'
      rw [hothu j hj] at hq
      exact hP _ w _ q z (h.el j q z hq hz') f (fun k hk e2 => (h.eb j z k hz' hk).2.2 (hS k e2))
  · by_cases hj : j = i
    · subst hj
      rw [hself] at hz'
      cases hz'
      exact hb k hk
    · rw [hoth j hj] at hz'
      obtain ⟨b1, b2, b3⟩ := h.eb j z k hz' hk
      exact ⟨b1, Nat.lt_of_lt_of_le b2 f.size, b3⟩
  · by_cases hj : j = i
    · subst hj
      rw [hself] at hz1
      cases hz1
      rw [hoth l (fun e => hjl e.symm)] at hz2
      exact ha l z' k (fun e => hjl e.symm) hz2 hk
    · rw [hoth j hj] at hz1
      by_cases hl : l = i
      · subst hl
        rw [hself] at hz2
        cases hz2
        exact fun e2 => ha j z k hj hz1 e2 hk
      · rw [hoth l hl] at hz2
        exact h.ap j l z z' k hjl hz1 hz2 hk
end
/-- The first of a list, and blanks behind them. -/
def fil {α : Type} (l : List α) (z : α) (i : Nat) : List α := l.take i ++ List.replicate (l.length - i) z
theorem fil_len {α : Type} (l : List α) (z : α) {i : Nat} (h : i ≤ l.length) : (fil l z i).length = l.length := by simp [fil]; omega
theorem fil_zero {α : Type} (l : List α) (z : α) : fil l z 0 = List.replicate l.length z := by simp [fil]
theorem fil_all {α : Type} (l : List α) (z : α) : fil l z l.length = l := by simp [fil]
theorem fil_set {α : Type} {l : List α} (z : α) {i : Nat} {p : α} (hp : l[i]? = some p) : (fil l z i).set i p = fil l z (i + 1) := by
  have hi := (List.getElem?_eq_some_iff.1 hp).1
  have : (l.take i).length = i := by simp; omega
  unfold fil
  rw [take_push hp, List.set_append, if_neg (by omega)]
  rw [this, Nat.sub_self, show l.length - i = (l.length - (i + 1)) + 1 by omega, List.replicate_succ, List.set_cons_zero]
  simp
end Go.Proofs.Ytjjfpokmpcpicaa
