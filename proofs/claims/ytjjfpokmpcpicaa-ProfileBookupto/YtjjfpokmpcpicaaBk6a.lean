/-
  While a profile is told.
-/
import Derived.Test.YtjjfpokmpcpicaaBk5
import Derived.Test.YtjjfpokmpcpicaaPCp
import Derived.Test.YtjjfpokmpcpicaaPMk
namespace Go.Proofs.Ytjjfpokmpcpicaa
open Go.RowKit
set_option linter.unusedVariables false
set_option linter.unusedSimpArgs false
section
variable {T U : Type} {en : T → List Value} {sz : Nat} {P : World → U → T → Prop} {bl : T → Nat → Prop} {Z : Nat → Prop}
/-- One thing turned, its own blocks with it. -/
theorem OW.setX {w w' : World} {v : Value} {us : List U} {xs : List T} (hP : Stays P bl) (h : OW en sz P bl Z w v us xs) {i : Nat} {u : U} {x x0 : T} {S : Nat → Prop} (hx0 : xs[i]? = some x0) (f : Fr S w w') (hS : ∀ k, S k → v.ownBlock = some k ∨ bl x0 k) (hr : Ro w' sz v us.length (flt en (xs.set i x)))
    (hp : P w' u x) (hb : ∀ k, bl x k → Z k ∧ k < w'.heap.size ∧ v.ownBlock ≠ some k) (ha : ∀ (j : Nat) (z : T) (k : Nat), j ≠ i → xs[j]? = some z → bl x k → ¬ bl z k) :
    OW en sz P bl Z w' v (us.set i u) (xs.set i x) := by
  have hln := h.len
  have hi : i < us.length := by rw [← hln]; exact (List.getElem?_eq_some_iff.1 hx0).1
  have hself : (xs.set i x)[i]? = some x := by rw [List.getElem?_set_self (by omega)]
  have hselfu : (us.set i u)[i]? = some u := by rw [List.getElem?_set_self hi]
  have hoth : ∀ j, j ≠ i → (xs.set i x)[j]? = xs[j]? := fun j hj => List.getElem?_set_ne (fun e => hj e.symm)
  have hothu : ∀ j, j ≠ i → (us.set i u)[j]? = us[j]? := fun j hj => List.getElem?_set_ne (fun e => hj e.symm)
  refine ⟨by simp [h.len], by rw [List.length_set]; exact hr, h.rb, fun j q z hq hz' => ?_, fun j z k hz' hk => ?_, fun j l z z' k hjl hz1 hz2 hk => ?_⟩
  · by_cases hj : j = i
    · subst hj
      rw [hself] at hz'
      cases hz'
      rw [hselfu] at hq
      cases hq
      exact hp
    · rw [hoth j hj] at hz'
      rw [hothu j hj] at hq
      exact hP _ w _ q z (h.el j q z hq hz') f (fun k hk e2 => (hS k e2).elim (fun e => (h.eb j z k hz' hk).2.2 e) (fun e => h.ap i j x0 z k (fun q => hj q.symm) hx0 hz' e hk))
  · by_cases hj : j = i
    · subst hj
      rw [hself] at hz'
      cases hz'
      exact hb k hk
    · rw [hoth j hj] at hz'
      obtain ⟨b1, b2, b3⟩ := h.eb j z k hz' hk
      exact ⟨b1, Nat.lt_of_lt_of_le b2 f.size, b3⟩
  · by_cases hj : j = i
    · subst hj
      rw [hself] at hz1
      cases hz1
      rw [hoth l (fun e => hjl e.symm)] at hz2
      exact ha l z' k (fun e => hjl e.symm) hz2 hk
    · rw [hoth j hj] at hz1
      by_cases hl : l = i
      · subst hl
        rw [hself] at hz2
        cases hz2
        exact fun e2 => ha j z k hj hz1 e2 hk
      · rw [hoth l hl] at hz2
        exact h.ap j l z z' k hjl hz1 hz2 hk
end
/-- One list of a row of lists grown by one, and laid back. -/
theorem SO.appSet {Z : Nat → Prop} {Y w1 : World} {g nn cap : Nat} {us : List (List Sp)} {xs : List Value} (h : SO Z Y (.slice (some ⟨g, 0, none⟩) nn cap) us xs) {i : Nat} {u : List Sp} {x x' : Value} {s : Sp} (hu : us[i]? = some u) (hx : xs[i]? = some x)
    (hr : Ro w1 4 x' (u.length + 1) (flt enS u ++ enS s)) (hg : Y.grownBy w1 x.ownBlock) (hat : x'.ownBlock = x.ownBlock ∨ x'.ownBlock = some Y.heap.size) (hZ : ∀ k, Y.heap.size ≤ k → Z k) :
    SO Z (w1.setCell ⟨g, i, none⟩ x') (.slice (some ⟨g, 0, none⟩) nn cap) (us.set i (u ++ [s])) (xs.set i x') ∧ Fr (fun k => Z k) Y (w1.setCell ⟨g, i, none⟩ x') ∧ w1.cell? ⟨g, i, none⟩ = some x ∧ w1.frozen? ⟨g, i, none⟩ = false := by
  obtain ⟨_, _, e0, _⟩ := h.row.shape
  cases e0
  have hi : i < us.length := (List.getElem?_eq_some_iff.1 hu).1
  have hgl : g < Y.heap.size := h.row.lt g rfl
  have hgx : ∀ k, x.ownBlock = some k → Z k ∧ k < Y.heap.size ∧ g ≠ k := fun k hk => by
    obtain ⟨a, b, c⟩ := h.eb i x k hx hk
    exact ⟨a, b, fun e => c (by rw [e]; rfl)⟩
  have f1 : Fr (fun k => x.ownBlock = some k) Y w1 := (Fr.refl _ Y).grown hg (fun k e => .inr e)
  have r1 : Ro w1 1 (.slice (some ⟨g, 0, none⟩) us.length cap) us.length (flt enV xs) := h.row.fr f1 (fun k hk e => by cases hk; exact (hgx g e).2.2 rfl)
  have hcell : w1.cell? ⟨g, i, none⟩ = some x := by
    obtain ⟨b, o, c, e, _, _, _, hc⟩ := (Rx.of_ro (by rw [← h.len] at r1; exact r1)).elem zV hx
    cases e
    have := hc 0 _ rfl
    simpa using this
  have r2 := r1.putAt zV h.len rfl hi x'
  have e2 : w1.setCells g (0 + i * 1) (enV x') = w1.setCell ⟨g, i, none⟩ x' := by simp [enV, World.setCells]
  rw [e2] at r2
  have hxb : ∀ k, x'.ownBlock = some k → Z k ∧ k < w1.heap.size ∧ g ≠ k := fun k hk => by
    have hl := hr.lt k hk
    rcases hat with q | q
    · rw [q] at hk
      obtain ⟨a, b, c⟩ := hgx k hk
      exact ⟨a, hl, c⟩
    · rw [q] at hk
      cases hk
      exact ⟨hZ _ (Nat.le_refl _), hl, by omega⟩
  have f2 : Fr (fun k => k = g ∨ x.ownBlock = some k) Y (w1.setCell ⟨g, i, none⟩ x') := (f1.mono (fun k _ e => .inr e)).setCell _ (.inr (.inl rfl)) _
  refine ⟨h.setX staysS hx f2 (fun k e => e.elim (fun e => .inl (by rw [e]; rfl)) .inr) r2.1 ?_ (fun k hk => ?_) (fun j z k hj hz hk hzk => ?_), f2.mono (fun k _ e => ?_), hcell, r1.free rfl _⟩
  · show Ro _ 4 x' (u ++ [s]).length (flt enS (u ++ [s]))
    have e3 : flt enS (u ++ [s]) = flt enS u ++ enS s := by simp [flt]
    rw [e3, List.length_append]
    exact hr.fr r2.2 (fun k hk e => (hxb k hk).2.2 e.symm)
  · obtain ⟨a, b, c⟩ := hxb k hk
    exact ⟨a, by simpa [World.setCell] using b, fun e => c (by cases e; rfl)⟩
  · rcases hat with q | q
    · exact h.ap i j x z k (fun e => hj e.symm) hx hz (by show x.ownBlock = some k; rw [← q]; exact hk) hzk
    · have hk2 : x'.ownBlock = some k := hk
      rw [q] at hk2
      cases hk2
      have := (h.eb j z _ hz hzk).2.1
      omega
  · rcases e with rfl | e
    · exact h.rb _ rfl
    · exact (hgx k e).1
/-- The blocks of what is told, while it is. -/
def PZ (w : World) (pv : Value) (k : Nat) : Prop := w.heap.size + 1 ≤ k ∧ pv.ownBlock ≠ some k
/-- While a profile is told: the first k spots are. -/
structure PrI (w : World) (f : List (List Sp)) (pv : Value) (pl : List (Int × Int)) (k : Nat) (vs : List Value) (wr : World) : Prop where
  bl : Below w.heap.size w wr
  b0 : wr.heap[w.heap.size]? = some (.cells #[.slice none 0 0] 28)
  ow : SO (PZ w pv) wr (.slice (some ⟨w.heap.size + 1, 0, none⟩) f.length f.length) (pre f k) vs
  pr : Ro wr 2 pv pl.length (flt enI pl)
  pb : ∀ b, pv.ownBlock = some b → w.heap.size + 2 ≤ b ∧ b < wr.heap.size
theorem PrI.on {w : World} {f : List (List Sp)} {pv : Value} {pl : List (Int × Int)} {k : Nat} {vs : List Value} {wr w' : World} (h : PrI w f pv pl k vs wr) (b : Below wr.heap.size wr w') : PrI w f pv pl k vs w' :=
  ⟨h.bl.trans (b.mono h.bl.size), (b.block _ (Array.getElem?_eq_some_iff.1 h.b0).1).trans h.b0, h.ow.below staysS b, h.pr.fr (Fr.of_below (S := fun _ => False) b) (fun _ _ e => e), fun k hk => ⟨(h.pb k hk).1, Nat.lt_of_lt_of_le (h.pb k hk).2 b.size⟩⟩
theorem PrI.start (w : World) (f : List (List Sp)) (hm : f.length ≤ maxLen) {pv : Value} {pl : List (Int × Int)} {w2 : World}
    (hg : Gx ((w.alloc (.cells #[.slice none 0 0] 28)).alloc (.cells (madeCells (Value.slice none 0 0).cells (f.length * 1)) 53)) 2 enI pl pv w2) : PrI w f pv pl 0 (List.replicate f.length (.slice none 0 0)) w2 := by
  obtain ⟨g1, g2, g3⟩ := hg
  have hro := made_ro enV (.slice none 0 0) (Value.slice none 0 0).cells 1 zV (by decide) rfl (w.alloc (.cells #[.slice none 0 0] 28)) 53 f.length hm
  have hsz : ((w.alloc (.cells #[.slice none 0 0] 28)).alloc (.cells (madeCells (Value.slice none 0 0).cells (f.length * 1)) 53)).heap.size = w.heap.size + 2 := by simp only [World.size_alloc]
  have hb1 : Below w.heap.size w ((w.alloc (.cells #[.slice none 0 0] 28)).alloc (.cells (madeCells (Value.slice none 0 0).cells (f.length * 1)) 53)) := ((Below.refl _ w).alloc (Nat.le_refl _) _).alloc (by simp only [World.size_alloc]; omega) _
  have hpb : ∀ b, pv.ownBlock = some b → w.heap.size + 2 ≤ b := fun b hb => by have := g3 b hb; omega
  refine ⟨hb1.trans (g2.mono hb1.size), ?_, ?_, g1, fun b hb => ⟨hpb b hb, g1.lt b hb⟩⟩
  · rw [g2.block _ (by omega), Below.heap_alloc _ _ _ (by simp only [World.size_alloc]; omega)]
    exact heap_alloc_new w _
  · refine OW.below staysS ?_ g2
    simp only [World.size_alloc] at hro
    refine ⟨by rw [pre_zero]; simp, by rw [pre_zero, List.length_replicate]; exact hro, fun k hk => by have hk2 : w.heap.size + 1 = k := by { simpa [Value.ownBlock] using hk }; subst hk2; exact ⟨Nat.le_refl _, fun e => by have := hpb _ e; omega⟩, fun i u x hu hx => ?_, fun i x k hx hk => ?_, fun i j x y k _ hx _ hk => ?_⟩
    · rw [pre_zero, List.getElem?_replicate] at hu
      rw [List.getElem?_replicate] at hx
      split at hu
      · cases hu
        rename_i h
        rw [if_pos h] at hx
        cases hx
        simpa [SR, flt] using Ro.nil _ 4
      · cases hu
    · rw [List.getElem?_replicate] at hx
      split at hx
      · cases hx; cases hk
      · cases hx
    · rw [List.getElem?_replicate] at hx
      split at hx
      · cases hx; cases hk
      · cases hx
end Go.Proofs.Ytjjfpokmpcpicaa
