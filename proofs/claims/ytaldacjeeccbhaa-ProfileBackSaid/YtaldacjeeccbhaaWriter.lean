/-
  A writer in memory: what it holds, and what a call of it may turn.
-/
import Derived.Test.YtaldacjeeccbhaaPB
import Derived.WalkKit
import Derived.Below
import Derived.Deep.AppendLies
namespace Go.Proofs.Ytaldacjeeccbhaa
open Go.RowKit

/-- A byte as a value. -/
def By (z : Int) : Value := .int .u8 z

/-- At block p lies a writer (a struct of one field, the slice v), which holds the bytes bs, in a row of its own. -/
structure Wtr (w : World) (p : Nat) (v : Value) (bs : List Int) : Prop where
  cell : w.cell? ⟨p, 0, none⟩ = some v
  frz : w.frozen? ⟨p, 0, none⟩ = false
  own : w.ownsRow 0 5 1 v bs.length (bs.map By)
  apart : v.ownBlock ≠ some p

/-- What is a writer's own: its struct, and its row. -/
def Foot (p : Nat) (v : Value) : Nat → Prop := fun k => k = p ∨ v.ownBlock = some k

/-- A call of the writer at p: it turns its own alone, and its row stays or is a new one. -/
structure WStep (p : Nat) (w : World) (v : Value) (w' : World) (v' : Value) : Prop where
  fr : Fr (Foot p v) w w'
  row : v'.ownBlock = v.ownBlock ∨ ∀ k, v'.ownBlock = some k → w.heap.size ≤ k

theorem WStep.refl (p : Nat) (w : World) (v : Value) : WStep p w v w v := ⟨Fr.refl _ _, .inl rfl⟩
theorem WStep.trans {p : Nat} {w w1 w2 : World} {v v1 v2 : Value} (h : WStep p w v w1 v1) (k : WStep p w1 v1 w2 v2) : WStep p w v w2 v2 := by
  have hs := h.fr.size
  refine ⟨⟨k.fr.os.trans h.fr.os, k.fr.tape.trans h.fr.tape, k.fr.output.trans h.fr.output, Nat.le_trans hs k.fr.size, fun i hi hn => ?_⟩, ?_⟩
  · rw [k.fr.block i (by omega) ?_]
    · exact h.fr.block i hi hn
    · rintro (e | e)
      · exact hn (.inl e)
      · rcases h.row with r | r
        · exact hn (.inr (r ▸ e))
        · have := r i e; omega
  · rcases k.row with r | r
    · rcases h.row with q | q
      · exact .inl (r.trans q)
      · exact .inr fun k hk => q k (r ▸ hk)
    · exact .inr fun k hk => by have := r k hk; omega

theorem Wtr.lt {w : World} {p : Nat} {v : Value} {bs : List Int} (h : Wtr w p v bs) : p < w.heap.size := World.block_lt_of_cell? _ _ h.cell
theorem Wtr.row_lt {w : World} {p : Nat} {v : Value} {bs : List Int} (h : Wtr w p v bs) : ∀ k, v.ownBlock = some k → k < w.heap.size := fun k hk => (h.own.lt k hk).2

/-- A writer is as it was where its own blocks are. -/
theorem Wtr.keep {w w' : World} {p : Nat} {v : Value} {bs : List Int} {S : Nat → Prop} (h : Wtr w p v bs) (f : Fr S w w') (hp : ¬ S p) (hr : ∀ k, v.ownBlock = some k → ¬ S k) : Wtr w' p v bs := by
  refine ⟨(f.cell (a := ⟨p, 0, none⟩) h.lt hp).trans h.cell, (f.frozen (a := ⟨p, 0, none⟩) h.lt hp).trans h.frz, ?_, h.apart⟩
  refine ⟨h.own.1, ?_⟩
  rcases h.own.2 with hn | ⟨g, cap, cur, rfl, hb, hgg, rest⟩
  · exact .inl hn
  · refine .inr ⟨g, cap, cur, rfl, hb, ?_, rest⟩
    rw [f.block g (Array.getElem?_eq_some_iff.1 hgg).1 (hr g rfl)]
    exact hgg

/-- Behind an append and the store of the new slice. -/
theorem Wtr.appended {w w1 w2 : World} {p : Nat} {v : Value} {bs : List Int} {g cap H m : Nat} {more : List Int} (h : Wtr w p v bs)
    (hw : Fr (fun _ => False) w w1)
    (hown : w2.ownsRow 0 5 1 (.slice (some ⟨g, 0, none⟩) (bs.length + m) cap) (bs.length + m) (bs.map By ++ more.map By)) (hm : more.length = m)
    (hgrow : w1.grownBy w2 v.ownBlock) (hat : v.ownBlock = some g ∨ g = H) (hH : w.heap.size ≤ H) :
    Wtr (w2.setCell ⟨p, 0, none⟩ (.slice (some ⟨g, 0, none⟩) (bs.length + m) cap)) p (.slice (some ⟨g, 0, none⟩) (bs.length + m) cap) (bs ++ more) ∧
    WStep p w v (w2.setCell ⟨p, 0, none⟩ (.slice (some ⟨g, 0, none⟩) (bs.length + m) cap)) (.slice (some ⟨g, 0, none⟩) (bs.length + m) cap) := by
  have hp := h.lt
  have hne : g ≠ p := by
    intro e; subst e
    rcases hat with e | e
    · exact h.apart e
    · omega
  have c1 : w2.cell? ⟨p, 0, none⟩ = some v := by
    rw [hgrow.cell_far _ (by have := hw.size; show p < _; omega) (Ne.symm h.apart), hw.cell (a := ⟨p, 0, none⟩) hp (by simp)]
    exact h.cell
  have f1 : w2.frozen? ⟨p, 0, none⟩ = false := by
    rw [hgrow.frozen_far _ (by have := hw.size; show p < _; omega) (Ne.symm h.apart), hw.frozen (a := ⟨p, 0, none⟩) hp (by simp)]
    exact h.frz
  have f0 : Fr (Foot p v) w w2 := (hw.mono (fun _ _ h => h.elim)).grown hgrow (fun k hk => .inr (.inr hk))
  refine ⟨⟨?_, ?_, ?_, ?_⟩, ⟨f0.setCell _ (.inr (.inl rfl)) _, ?_⟩⟩
  · exact World.cell?_setCell_same _ _ _ c1
  · rw [World.frozen?_setCell]; exact f1
  · obtain ⟨h1, h2⟩ := hown
    rw [List.length_append, hm, List.map_append]
    refine ⟨h1, ?_⟩
    rcases h2 with h2 | ⟨g', cap', cur, hv, hg, hh, r⟩
    · exact Or.inl h2
    · refine Or.inr ⟨g', cap', cur, hv, hg, ?_, r⟩
      have : g' = g := by simp at hv; exact hv.1.symm
      rw [Below.heap_setCell _ _ _ _ (by rw [this]; exact hne)]; exact hh
  · intro e; simp [Value.ownBlock] at e; exact hne e
  · rcases hat with e | e
    · exact .inl (by rw [e]; rfl)
    · exact .inr fun k hk => by simp [Value.ownBlock] at hk; omega
end Go.Proofs.Ytaldacjeeccbhaa
