/-
  A profile lent.
-/
import Derived.Test.YtclcebdcdbcpjaaGreatSmP
namespace Go.Proofs.YtclcebdcdbcpjaaGreat
open Go.RowKit
set_option linter.unusedVariables false
set_option linter.unusedSimpArgs false
def mkS (n : Nat) : List Sp := (List.range n).map (fun (i : Nat) => (⟨-9, 0, 0, (i : Int)⟩ : Sp))
theorem mkS_succ (n : Nat) : mkS (n + 1) = mkS n ++ [⟨-9, 0, 0, (n : Int)⟩] := by simp [mkS, List.range_succ]
theorem mkS_length (n : Nat) : (mkS n).length = n := by simp [mkS]
theorem mkS_at {n i : Nat} (h : i < n) : (mkS n)[i]? = some ⟨-9, 0, 0, (i : Int)⟩ := by simp [mkS, h]
/-- A list of spots, lent: marks behind it. -/
def LR (w : World) (l : List Sp) (u : Value) : Prop :=
  ∃ b o c, u = .slice (some ⟨b, o, none⟩) l.length c ∧ Ro w 4 (.slice (some ⟨b, o, none⟩) (l.length + 64) c) (l.length + 64) (flt enS (l ++ mkS 64))
def blV (u : Value) (k : Nat) : Prop := u.ownBlock = some k
theorem staysL : Stays LR blV := fun S w w' l u h f hk => by
  obtain ⟨b, o, c, e, h⟩ := h
  exact ⟨b, o, c, e, h.fr f (fun k hk2 => hk k (by rw [e]; exact hk2))⟩
theorem LR.rx {w : World} {l : List Sp} {u : Value} (h : LR w l u) : Ro w 4 u l.length (flt enS l) := by
  obtain ⟨b, o, c, rfl, h⟩ := h
  have := h.upto rfl (k := l.length) (by omega)
  rw [flt_take zS, List.take_left] at this
  exact this
abbrev LO := OW enV 1 LR blV
theorem OW.lpf {Z : Nat → Prop} {w : World} {v : Value} {f : List (List Sp)} {vs : List Value} (h : LO Z w v f vs) : PfV w v f :=
  ⟨vs, h.len, by rw [h.len]; exact Rx.of_ro h.row, fun i l u hl hu => Rx.of_ro (h.el i l u hl hu).rx⟩
structure LS (w : World) (av : Value) (f : List (List Sp)) (i : Nat) (gv : Value) (vs : List Value) (wr : World) : Prop where
  bl : Below w.heap.size w wr
  b0 : wr.heap[w.heap.size]? = some (.cells #[av] 25)
  b1 : wr.heap[w.heap.size + 1]? = some (.cells #[.slice none 0 0] 25)
  b2 : wr.heap[w.heap.size + 1 + 1]? = some (.cells #[gv] 25)
  ow : LO (fun k => w.heap.size + 3 ≤ k) wr gv (f.take i) vs
  sz : w.heap.size + 3 ≤ wr.heap.size
theorem LS.start (w : World) (av : Value) (f : List (List Sp)) : LS w av f 0 (.slice none 0 0) [] (((w.alloc (.cells #[av] 25)).alloc (.cells #[.slice none 0 0] 25)).alloc (.cells #[.slice none 0 0] 25)) := by
  obtain ⟨h1, h2, h3⟩ := blk3 w (.cells #[av] 25) (.cells #[.slice none 0 0] 25) (.cells #[.slice none 0 0] 25)
  exact ⟨bl_three w _ _ _, h1, h2, h3, by rw [List.take_zero]; exact OW.nil _, by simp only [World.size_alloc]; omega⟩
theorem LS.on {w : World} {av : Value} {f : List (List Sp)} {i : Nat} {gv : Value} {vs : List Value} {wr w' : World} (h : LS w av f i gv vs wr) (k : Below wr.heap.size wr w') : LS w av f i gv vs w' := by
  have hs := h.sz
  exact ⟨bl_past h.bl k, (k.block _ (by omega)).trans h.b0, (k.block _ (by omega)).trans h.b1, (k.block _ (by omega)).trans h.b2, h.ow.below staysL k, Nat.le_trans hs k.size⟩
theorem LS.push {w : World} {av : Value} {f : List (List Sp)} {i : Nat} {gv : Value} {vs : List Value} {wr w1 w3 : World} (h : LS w av f i gv vs wr) {l : List Sp} (hl : f[i]? = some l) (hb : Below wr.heap.size wr w1) {u v' : Value} (hu : LR w1 l u) (hn : ∀ k, u.ownBlock = some k → wr.heap.size ≤ k ∧ k < w1.heap.size) {m : Nat}
    (hr : Ro w3 1 v' m (flt enV vs ++ enV u)) (hm : m = i + 1) (hg : w1.grownBy w3 gv.ownBlock) (hat : v'.ownBlock = gv.ownBlock ∨ v'.ownBlock = some w1.heap.size) :
    LS w av f (i + 1) v' (vs ++ [u]) (w3.setCell ⟨w.heap.size + 1 + 1, 0, none⟩ v') := by
  have hs := h.sz
  have hil := (List.getElem?_eq_some_iff.1 hl).1
  have htl : (f.take i).length = i := by simp; omega
  have hbs := hb.size
  obtain ⟨q1, q2⟩ := h.ow.push staysL hb hu hn (fun k hk => by omega) hr (by rw [htl]; exact hm) hg hat
  rw [← take_push hl] at q1
  have hgb : ∀ k, gv.ownBlock = some k → w.heap.size + 3 ≤ k := h.ow.rb
  have hsz := q2.size
  have fr2 : Fr (fun k => k = w.heap.size + 1 + 1) w3 (w3.setCell ⟨w.heap.size + 1 + 1, 0, none⟩ v') := Fr.setCell (S := fun k => k = w.heap.size + 1 + 1) (Fr.refl _ w3) ⟨w.heap.size + 1 + 1, 0, none⟩ (.inr rfl) v'
  have e0 : ∀ k, k < w.heap.size + 3 → w3.heap[k]? = wr.heap[k]? := fun k hk => q2.block k (by omega) (fun e => by have := hgb k e; omega)
  have hbw : Below w.heap.size w w3 := h.bl.trans (q2.below h.bl.size (fun k hk e => by have := hgb k e; omega))
  have hbs1 := hbw.size
  refine ⟨hbw.trans (fr2.below hbs1 (fun k hk e => by omega)), ?_, ?_, ?_, q1.frZ staysL fr2 (fun k _ hk e => by omega), ?_⟩
  · rw [fr2.block _ (by omega) (by omega), e0 _ (by omega)]; exact h.b0
  · rw [fr2.block _ (by omega) (by omega), e0 _ (by omega)]; exact h.b1
  · have := setCell_block (g := w.heap.size + 1 + 1) (o := 0) ((e0 _ (by omega)).trans h.b2) v'
    rw [this]; rfl
  · have := fr2.size; omega
end Go.Proofs.YtclcebdcdbcpjaaGreat
