/-
  shown: the examples.
-/
import Derived.Test.YtlogmdldjmkkjaaGreatDoorSh0
namespace Go.Proofs.YtlogmdldjmkkjaaGreatDoor
open Go.RowKit
set_option linter.unusedVariables false
set_option linter.unusedSimpArgs false
set_option maxRecDepth 100000
theorem Rd.bl {w w' : World} {v : Value} {B : List Int} (h : Rd w v B) (f : Below w.heap.size w w') : Rd w' v B := by
  rcases h with ⟨e1, e2⟩ | ⟨b, off, cap, e, c1, c2, c3, c4⟩
  · exact .inl ⟨e1, e2⟩
  · exact .inr ⟨b, off, cap, e, c1, c2, Nat.lt_of_lt_of_le c3 f.size, fun i hi => (f.cell (p := ⟨b, off + i, none⟩) c3).trans (c4 i hi)⟩
theorem Rd.of_ro {w : World} {v : Value} {B : List Int} (h : Ro w 1 v B.length (B.map By)) : Rd w v B := by
  rcases h.2 with ⟨e1, e2⟩ | ⟨g, off, cap, cur, t, e, hh, h1, h2, _, h3⟩
  · exact .inl ⟨e1, List.eq_nil_of_length_eq_zero e2⟩
  · refine .inr ⟨g, off, cap, e, h1, h2, (Array.getElem?_eq_some_iff.1 hh).1, fun i hi => ?_⟩
    have := h3 i (by omega)
    simp only [World.cell?, hh]
    simp [List.getElem?_map, List.getElem?_eq_getElem hi] at this
    simp [this, By, List.getD, List.getElem?_eq_getElem hi]
/-- The beginning of a row of bytes. -/
theorem Rd.upto {w : World} {a : Option Addr} {n cap : Nat} {B : List Int} (h : Rd w (.slice a n cap) B) {k : Nat} (hk : k ≤ B.length) : Rd w (.slice a k cap) (B.take k) := by
  rcases h with ⟨e1, e2⟩ | ⟨b, off, cap', e, c1, c2, c3, c4⟩
  · subst e2
    simp only [List.length_nil, Nat.le_zero] at hk
    subst hk
    cases e1
    exact .inl ⟨rfl, rfl⟩
  · cases e
    have hl : (B.take k).length = k := by rw [List.length_take]; omega
    refine .inr ⟨b, off, cap, by rw [hl], by omega, c2, c3, fun i hi => ?_⟩
    rw [hl] at hi
    rw [c4 i (by omega)]
    simp [List.getD, List.getElem?_take, hi]
end Go.Proofs.YtlogmdldjmkkjaaGreatDoor
