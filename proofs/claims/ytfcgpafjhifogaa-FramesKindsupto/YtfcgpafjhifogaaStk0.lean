/-
  A stack in memory.
-/
import Derived.Test.YtfcgpafjhifogaaApps
namespace Go.Proofs.Ytfcgpafjhifogaa
open Go.RowKit
set_option linter.unusedVariables false
set_option linter.unusedSimpArgs false
/-- A stack at p whose row is v: n things. -/
structure Sk (w : World) (p sz : Nat) (v : Value) (n : Nat) (xs : List Value) : Prop where
  box : Ro w 1 (.slice (some ⟨p, 0, none⟩) 1 1) 1 [v]
  row : Ro w sz v n xs
  off : v.ownBlock ≠ some p
  one : ∀ u ∈ xs, u.oneCell' = true
/-- What a call of a stack turned. -/
structure StS (p : Nat) (w : World) (v : Value) (w' : World) (v' : Value) : Prop where
  fr : Fr (fun k => k = p ∨ v.ownBlock = some k) w w'
  new : ∀ k, v'.ownBlock = some k → v.ownBlock = some k ∨ w.heap.size ≤ k
section
variable {w w' : World} {p sz : Nat} {v : Value} {n : Nat} {xs : List Value}
theorem StS.refl : StS p w v w v := ⟨Fr.refl _ _, fun k h => .inl h⟩
theorem Sk.lt (h : Sk w p sz v n xs) : p < w.heap.size := h.box.lt p rfl
theorem Sk.cell (h : Sk w p sz v n xs) : w.cell? ⟨p, 0, none⟩ = some v ∧ w.frozen? ⟨p, 0, none⟩ = false := by
  obtain ⟨g, off, cap, e, _, _, _, hc⟩ := h.box.full (by omega)
  cases e
  exact ⟨by simpa using hc 0 (by omega), h.box.free rfl 0⟩
theorem Sk.fr {S : Nat → Prop} (h : Sk w p sz v n xs) (f : Fr S w w') (h1 : ¬ S p) (h2 : ∀ k, v.ownBlock = some k → ¬ S k) : Sk w' p sz v n xs :=
  ⟨h.box.fr f (fun k e => by cases e; exact h1), h.row.fr f h2, h.off, h.one⟩
/-- The row turned and its cell is written. -/
theorem Sk.put {w1 : World} {v' : Value} {m : Nat} {ys : List Value} (h : Sk w p sz v n xs) (f : Fr (fun k => v.ownBlock = some k) w w1) (hr : Ro w1 sz v' m ys) (hat : ∀ k, v'.ownBlock = some k → v.ownBlock = some k ∨ w.heap.size ≤ k) (h1 : ∀ u ∈ ys, u.oneCell' = true) :
    (w1.cell? ⟨p, 0, none⟩ = some v ∧ w1.frozen? ⟨p, 0, none⟩ = false) ∧ Sk (w1.setCell ⟨p, 0, none⟩ v') p sz v' m ys ∧ StS p w v (w1.setCell ⟨p, 0, none⟩ v') v' := by
  obtain ⟨c0, f0⟩ := h.cell
  have hp := h.lt
  have hb1 : Ro w1 1 (.slice (some ⟨p, 0, none⟩) 1 1) 1 [v] := h.box.fr f (fun k e => by cases e; exact h.off)
  have hoff : v'.ownBlock ≠ some p := fun e => by
    rcases hat p e with q | q
    · exact h.off q
    · omega
  obtain ⟨k1, k2⟩ := hb1.sets rfl (o := 0) (m := 1) (vs := [v']) (ys := [v']) (by omega) (by simp) (by omega) rfl (fun j hj => by
    obtain rfl : j = 0 := by omega
    simp) (fun j hj q => by omega)
  refine ⟨⟨(f.cell (a := ⟨p, 0, none⟩) hp h.off).trans c0, (f.frozen (a := ⟨p, 0, none⟩) hp h.off).trans f0⟩, ⟨k1, hr.keep (fun g hg => ?_), hoff, h1⟩, ⟨?_, hat⟩⟩
  · rw [Below.heap_setCell _ _ _ _ (fun e => hoff (by rw [hg]; exact congrArg some e))]
  · exact Fr.setCell (f.mono (fun k _ e => .inr e)) _ (.inr (.inl rfl)) _
end
end Go.Proofs.Ytfcgpafjhifogaa
