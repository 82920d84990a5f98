/-
  Profiles of one's own: copied.
-/
import Derived.Test.YtclcebdcdbcpjaaGreatPLn
namespace Go.Proofs.YtclcebdcdbcpjaaGreat
open Go.RowKit
set_option linter.unusedVariables false
set_option linter.unusedSimpArgs false
/-- A list of spots of one's own. -/
def SR (w : World) (l : List Sp) (u : Value) : Prop := Ro w 4 u l.length (flt enS l)
theorem staysS : Stays SR blV := fun S w w' l u h f hk => Ro.fr h f hk
abbrev SO := OW enV 1 SR blV
theorem OW.pf {Z : Nat → Prop} {w : World} {v : Value} {f : List (List Sp)} {vs : List Value} (h : SO Z w v f vs) : PfV w v f :=
  ⟨vs, h.len, by rw [h.len]; exact Rx.of_ro h.row, fun i l u hl hu => Rx.of_ro (h.el i l u hl hu)⟩
/-- While a profile is made: boxes, the answer's box, the profile's box. -/
structure NS (w : World) (bx : List Value) (fs : List (List Sp)) (gv : Value) (vs : List Value) (wr : World) : Prop where
  bl : Below w.heap.size w wr
  bs : ∀ j a, bx[j]? = some a → wr.heap[w.heap.size + j]? = some (.cells #[a] 25)
  b1 : wr.heap[w.heap.size + bx.length]? = some (.cells #[.slice none 0 0] 25)
  b2 : wr.heap[w.heap.size + bx.length + 1]? = some (.cells #[gv] 25)
  ow : SO (fun k => w.heap.size + bx.length + 2 ≤ k) wr gv fs vs
  sz : w.heap.size + bx.length + 2 ≤ wr.heap.size
theorem NS.start1 (w : World) (av : Value) : NS w [av] [] (.slice none 0 0) [] (((w.alloc (.cells #[av] 25)).alloc (.cells #[.slice none 0 0] 25)).alloc (.cells #[.slice none 0 0] 25)) := by
  obtain ⟨h1, h2, h3⟩ := blk3 w (.cells #[av] 25) (.cells #[.slice none 0 0] 25) (.cells #[.slice none 0 0] 25)
  refine ⟨bl_three w _ _ _, fun j a ha => ?_, h2, h3, OW.nil _, by simp only [World.size_alloc]; simp⟩
  match j, ha with
  | 0, ha => cases ha; exact h1
theorem NS.start2 (w : World) (av bv : Value) : NS w [av, bv] [] (.slice none 0 0) [] ((((w.alloc (.cells #[av] 25)).alloc (.cells #[bv] 25)).alloc (.cells #[.slice none 0 0] 25)).alloc (.cells #[.slice none 0 0] 25)) := by
  obtain ⟨h1, h2, h3⟩ := blk3 w (.cells #[av] 25) (.cells #[bv] 25) (.cells #[.slice none 0 0] 25)
  have k : Below (((w.alloc (.cells #[av] 25)).alloc (.cells #[bv] 25)).alloc (.cells #[.slice none 0 0] 25)).heap.size _ ((((w.alloc (.cells #[av] 25)).alloc (.cells #[bv] 25)).alloc (.cells #[.slice none 0 0] 25)).alloc (.cells #[.slice none 0 0] 25)) := (Below.refl _ _).alloc (Nat.le_refl _) _
  have h4 := heap_alloc_new (((w.alloc (.cells #[av] 25)).alloc (.cells #[bv] 25)).alloc (.cells #[.slice none 0 0] 25)) (.cells #[.slice none 0 0] 25)
  simp only [World.size_alloc] at h4 k
  refine ⟨bl_past (bl_three w _ _ _) ((Below.refl _ _).alloc (Nat.le_refl _) _), fun j a ha => ?_, (k.block _ (by simp)).trans h3, h4, OW.nil _, by simp only [World.size_alloc]; simp⟩
  match j, ha with
  | 0, ha => cases ha; exact (k.block _ (by omega)).trans h1
  | 1, ha => cases ha; exact (k.block _ (by omega)).trans h2
theorem NS.on {w : World} {bx : List Value} {fs : List (List Sp)} {gv : Value} {vs : List Value} {wr w' : World} (h : NS w bx fs gv vs wr) (k : Below wr.heap.size wr w') : NS w bx fs gv vs w' := by
  have hs := h.sz
  exact ⟨bl_past h.bl k, fun j a ha => (k.block _ (by have := (List.getElem?_eq_some_iff.1 ha).1; omega)).trans (h.bs j a ha), (k.block _ (by omega)).trans h.b1, (k.block _ (by omega)).trans h.b2, h.ow.below staysS k, Nat.le_trans hs k.size⟩
theorem NS.push {w : World} {bx : List Value} {fs : List (List Sp)} {gv : Value} {vs : List Value} {wr w1 w3 : World} (h : NS w bx fs gv vs wr) {l : List Sp} (hb : Below wr.heap.size wr w1) {u v' : Value} (hu : SR w1 l u) (hn : ∀ k, u.ownBlock = some k → wr.heap.size ≤ k ∧ k < w1.heap.size) {m : Nat}
    (hr : Ro w3 1 v' m (flt enV vs ++ enV u)) (hm : m = fs.length + 1) (hg : w1.grownBy w3 gv.ownBlock) (hat : v'.ownBlock = gv.ownBlock ∨ v'.ownBlock = some w1.heap.size) :
    NS w bx (fs ++ [l]) v' (vs ++ [u]) (w3.setCell ⟨w.heap.size + bx.length + 1, 0, none⟩ v') := by
  have hs := h.sz
  have hbs := hb.size
  obtain ⟨q1, q2⟩ := h.ow.push staysS hb hu hn (fun k hk => by omega) hr hm hg hat
  have hgb : ∀ k, gv.ownBlock = some k → w.heap.size + bx.length + 2 ≤ k := h.ow.rb
  have hsz := q2.size
  have fr2 : Fr (fun k => k = w.heap.size + bx.length + 1) w3 (w3.setCell ⟨w.heap.size + bx.length + 1, 0, none⟩ v') := Fr.setCell (S := fun k => k = w.heap.size + bx.length + 1) (Fr.refl _ w3) ⟨w.heap.size + bx.length + 1, 0, none⟩ (.inr rfl) v'
  have e0 : ∀ k, k < w.heap.size + bx.length + 2 → w3.heap[k]? = wr.heap[k]? := fun k hk => q2.block k (by omega) (fun e => by have := hgb k e; omega)
  have hbw : Below w.heap.size w w3 := h.bl.trans (q2.below h.bl.size (fun k hk e => by have := hgb k e; omega))
  have hbs1 := hbw.size
  refine ⟨hbw.trans (fr2.below hbs1 (fun k hk e => by omega)), fun j a ha => ?_, ?_, ?_, q1.frZ staysS fr2 (fun k _ hk e => by omega), ?_⟩
  · have hj := (List.getElem?_eq_some_iff.1 ha).1
    rw [fr2.block _ (by omega) (by omega), e0 _ (by omega)]; exact h.bs j a ha
  · rw [fr2.block _ (by omega) (by omega), e0 _ (by omega)]; exact h.b1
  · have := setCell_block (g := w.heap.size + bx.length + 1) (o := 0) ((e0 _ (by omega)).trans h.b2) v'
    rw [this]; rfl
  · have := fr2.size; omega
theorem NS.fin {w : World} {bx : List Value} {fs : List (List Sp)} {gv : Value} {vs : List Value} {wr : World} (h : NS w bx fs gv vs wr) (u : Value) : SO (fun k => w.heap.size ≤ k) (wr.setCell ⟨w.heap.size + bx.length, 0, none⟩ u) gv fs vs ∧ Below w.heap.size w (wr.setCell ⟨w.heap.size + bx.length, 0, none⟩ u) := by
  have f : Fr (fun k => k = w.heap.size + bx.length) wr (wr.setCell ⟨w.heap.size + bx.length, 0, none⟩ u) := Fr.setCell (S := fun k => k = w.heap.size + bx.length) (Fr.refl _ wr) ⟨w.heap.size + bx.length, 0, none⟩ (.inr rfl) u
  exact ⟨(h.ow.frZ staysS f (fun k _ hk e => by omega)).mono (fun k _ hk => by omega), h.bl.trans (f.below h.bl.size (fun k hk e => by omega))⟩
end Go.Proofs.YtclcebdcdbcpjaaGreat
