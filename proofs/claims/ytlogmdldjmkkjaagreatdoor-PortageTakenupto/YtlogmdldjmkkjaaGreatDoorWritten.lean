/-
  What one call of a new writer writes.
-/
import Derived.Test.YtlogmdldjmkkjaaGreatDoorText
namespace Go.Proofs.YtlogmdldjmkkjaaGreatDoor
open Go.RowKit

theorem Wtr.alloc {w : World} {p : Nat} {v : Value} {bs : List Int} (h : Wtr w p v bs) (o : Obj) : Wtr (w.alloc o) p v bs :=
  h.keep (S := fun _ => False) ((Fr.refl _ _).alloc o) (by simp) (by simp)
theorem own_mono {w : World} {base base' : Nat} {v : Value} {n : Nat} {xs : List Value} (h : w.ownsRow base 5 1 v n xs) (hb : base' ≤ base) : w.ownsRow base' 5 1 v n xs := by
  refine ⟨h.1, ?_⟩
  rcases h.2 with h | ⟨g, cap, cur, h1, h2, h3⟩
  · exact .inl h
  · exact .inr ⟨g, cap, cur, h1, by omega, h3⟩

end Go.Proofs.YtlogmdldjmkkjaaGreatDoor
