/-
  Rows of one's own that are written over.
-/
import Derived.Test.YtaldacjeeccbhaaCopy
import Derived.Laws.Rows
namespace Go.Proofs.Ytaldacjeeccbhaa
open Go.RowKit

/-- A byte stored into a row of one's own. -/
theorem own_store {w : World} {base : Nat} {v : Value} {xs : List Int} (h : w.ownsRow base 5 1 v xs.length (xs.map By)) (g i : Nat) (hv : v.ownBlock = some g) (b : Int) :
    (w.setCell ⟨g, i, none⟩ (.int .u8 b)).ownsRow base 5 1 v xs.length ((xs.set i b).map By) := by
  refine ⟨by simp, ?_⟩
  rcases h.2 with ⟨rfl, h0⟩ | ⟨g', cap, cur, rfl, hb, hg, hn, hc, hs, ht⟩
  · simp [Value.ownBlock] at hv
  · simp only [Value.ownBlock, Option.some.injEq] at hv
    subst hv
    refine .inr ⟨g', cap, _, rfl, hb, heap_setCell_same w g' i cur 5 (.int .u8 b) hg, hn, hc, by simpa using hs, ?_⟩
    simp only [Nat.mul_one] at ht ⊢
    rw [Array.toList_setIfInBounds, List.take_set, ht, List.map_set]
    rfl

/-- Rows that are one's own, each in a block of its own. -/
structure Rws (w0 : World) (base : Nat) (vs : List Value) (xss : Nat → List Int) (w : World) : Prop where
  own : ∀ k, k < vs.length → w.ownsRow base 5 1 (vs.getD k (.slice none 0 0)) (xss k).length ((xss k).map By)
  ap : ∀ k k' b, k < vs.length → k' < vs.length → k ≠ k' → (vs.getD k (.slice none 0 0)).ownBlock = some b → (vs.getD k' (.slice none 0 0)).ownBlock ≠ some b
  fr : Fr (fun b => ∃ k, k < vs.length ∧ (vs.getD k (.slice none 0 0)).ownBlock = some b) w0 w
def upd (xss : Nat → List Int) (k : Nat) (xs : List Int) : Nat → List Int := fun k' => if k' = k then xs else xss k'
theorem own_set_far {w : World} {base : Nat} {v : Value} {n : Nat} {xs : List Value} (h : w.ownsRow base 5 1 v n xs) (p : Addr) (hp : v.ownBlock ≠ some p.block) (u : Value) : (w.setCell p u).ownsRow base 5 1 v n xs := by
  refine ⟨h.1, ?_⟩
  rcases h.2 with h0 | ⟨g, cap, cur, rfl, hb, hg, hn, hc, hs, ht⟩
  · exact .inl h0
  · exact .inr ⟨g, cap, cur, rfl, hb, by rw [Below.heap_setCell _ _ _ _ (fun e => hp (by rw [← e]; rfl))]; exact hg, hn, hc, hs, ht⟩
theorem Rws.store {w0 w : World} {base : Nat} {vs : List Value} {xss : Nat → List Int} (h : Rws w0 base vs xss w) (k i g : Nat) (hk : k < vs.length) (hv : (vs.getD k (.slice none 0 0)).ownBlock = some g) (b : Int) :
    Rws w0 base vs (upd xss k ((xss k).set i b)) (w.setCell ⟨g, i, none⟩ (.int .u8 b)) := by
  refine ⟨fun k' hk' => ?_, h.ap, Fr.setCell h.fr ⟨g, i, none⟩ (.inr ⟨k, hk, hv⟩) _⟩
  unfold upd
  by_cases e : k' = k
  · subst e
    rw [if_pos rfl, List.length_set]
    exact own_store (h.own k' hk') g i hv b
  · rw [if_neg e]
    exact own_set_far (h.own k' hk') ⟨g, i, none⟩ (h.ap k k' g hk hk' (Ne.symm e) hv) _
/-- The mark of a place. -/
def mrk (k i : Nat) : Int := (37 * ((k : Int) + 1) + (i : Int)) % 256
/-- So many rows are marked, and so much of the next. -/
structure Mkd (w0 : World) (base : Nat) (vs : List Value) (ns : Nat → Nat) (k i : Nat) (w : World) : Prop where
  ex : ∃ xss, Rws w0 base vs xss w ∧ (∀ k', (xss k').length = ns k') ∧ (∀ k', k' < k → ∀ j, j < ns k' → (xss k').getD j 0 = mrk k' j) ∧ ∀ j, j < i → (xss k).getD j 0 = mrk k j
theorem Mkd.next {w0 w : World} {base : Nat} {vs : List Value} {ns : Nat → Nat} {k : Nat} (h : Mkd w0 base vs ns k (ns k) w) : Mkd w0 base vs ns (k + 1) 0 w := by
  obtain ⟨xss, h1, h2, h3, h4⟩ := h.ex
  refine ⟨xss, h1, h2, fun k' hk' j hj => ?_, fun j hj => absurd hj (by omega)⟩
  rcases Nat.lt_or_ge k' k with q | q
  · exact h3 k' q j hj
  · obtain rfl : k' = k := by omega
    exact h4 j hj
theorem Mkd.step {w0 w : World} {base : Nat} {vs : List Value} {ns : Nat → Nat} {k i g : Nat} (h : Mkd w0 base vs ns k i w) (hk : k < vs.length) (hi : i < ns k) (hv : (vs.getD k (.slice none 0 0)).ownBlock = some g) : Mkd w0 base vs ns k (i + 1) (w.setCell ⟨g, i, none⟩ (.int .u8 (mrk k i))) := by
  obtain ⟨xss, h1, h2, h3, h4⟩ := h.ex
  refine ⟨_, h1.store k i g hk hv (mrk k i), fun k' => ?_, fun k' hk' j hj => ?_, fun j hj => ?_⟩
  · unfold upd
    by_cases e : k' = k
    · subst e; rw [if_pos rfl, List.length_set]; exact h2 k'
    · rw [if_neg e]; exact h2 k'
  · unfold upd
    rw [if_neg (by omega)]
    exact h3 k' hk' j hj
  · unfold upd
    rw [if_pos rfl]
    have hl : i < (xss k).length := by rw [h2]; exact hi
    by_cases e : j = i
    · subst e; simp [List.getD, hl]
    · have := h4 j (by omega)
      simp only [List.getD, List.getElem?_set_ne (Ne.symm e)] at this ⊢
      exact this
/-- What is read and written there. -/
theorem Mkd.cell {w0 w : World} {base : Nat} {vs : List Value} {ns : Nat → Nat} {k i : Nat} (h : Mkd w0 base vs ns k i w) (hk : k < vs.length) : ∃ a cap, vs.getD k (.slice none 0 0) = .slice a (ns k) cap ∧
    (i < ns k → ∃ g z, a = some ⟨g, 0, none⟩ ∧ (vs.getD k (.slice none 0 0)).ownBlock = some g ∧ w.cell? ⟨g, i, none⟩ = some (.int .u8 z) ∧ w.frozen? ⟨g, i, none⟩ = false) := by
  obtain ⟨xss, h1, h2, _, _⟩ := h.ex
  have ho := h1.own k hk
  have hl := h2 k
  have hcs := fun g hg => World.ownsRow.cells ho (g := g) hg
  rcases ho.2 with ⟨e, h0⟩ | ⟨g, cap, cur, e, hb, hg, hn, hc, hs, ht⟩
  · exact ⟨none, 0, by rw [e, ← hl, h0], fun hi => by omega⟩
  · refine ⟨some ⟨g, 0, none⟩, cap, by rw [e, ← hl], fun hi => ⟨g, (xss k).getD i 0, rfl, by rw [e]; rfl, ?_, ?_⟩⟩
    · have := hcs g (by rw [e]; rfl) i (By ((xss k).getD i 0)) (by rw [← hl] at hi; simp [List.getD, hi])
      rw [addr_add0] at this
      exact this
    · simp only [World.frozen?, hg]; simp
end Go.Proofs.Ytaldacjeeccbhaa
