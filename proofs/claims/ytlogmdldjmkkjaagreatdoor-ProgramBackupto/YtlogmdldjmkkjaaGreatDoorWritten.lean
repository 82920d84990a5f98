/-
  What one call of a new writer writes.
-/
import Derived.Test.YtlogmdldjmkkjaaGreatDoorText
namespace Go.Proofs.YtlogmdldjmkkjaaGreatDoor
open Go.RowKit

/-- A number of 64 bits as one with a sign. -/
def toI64 (x : Nat) : Int := if x < 9223372036854775808 then (x : Int) else (x : Int) - 18446744073709551616
theorem toI64_bd (x : Nat) (hx : x < 2 ^ 64) : -9223372036854775808 ≤ toI64 x ∧ toI64 x ≤ 9223372036854775807 := by unfold toI64; split <;> omega
theorem toI64_wrap (x : Nat) (hx : x < 2 ^ 64) : wrap64 (x : Int) = toI64 x := by unfold toI64 wrap64; split <;> omega

/-- What such a call writes. -/
def pform (kind : Int) (x : Nat) (s : ByteArray) : List Int :=
  if kind = 0 then [((x % 256 : Nat) : Int)] else if kind = 1 then Wm.uform 9 x else if kind = 2 then Wm.uform 9 (foldI (toI64 x)).toNat else if kind = 3 then wpre x 8
  else if kind = 4 then Wm.uform 9 s.size ++ strI s else []

def PutV (on kind : Int) (x : Nat) (s : ByteArray) : Value := .agg #[.int .i64 on, .int .i64 kind, .int .u64 x, .string s]

theorem Wtr.alloc {w : World} {p : Nat} {v : Value} {bs : List Int} (h : Wtr w p v bs) (o : Obj) : Wtr (w.alloc o) p v bs :=
  h.keep (S := fun _ => False) ((Fr.refl _ _).alloc o) (by simp) (by simp)
theorem WStep.of_alloc {w w' : World} {p : Nat} {v v' : Value} {o : Obj} (h : WStep p (w.alloc o) v w' v') : WStep p w v w' v' :=
  (WStep.mk ((Fr.refl _ w).alloc o) (.inl rfl)).trans h

theorem bcell {B : Nat} {W w1 : World} (hb : Below B W w1) : (∀ b o, b < B → w1.cell? ⟨b, o, none⟩ = W.cell? ⟨b, o, none⟩) ∧ (∀ b o, b < B → w1.frozen? ⟨b, o, none⟩ = W.frozen? ⟨b, o, none⟩) :=
  ⟨fun b o h => hb.cell (p := ⟨b, o, none⟩) h, fun b o h => hb.frozen (p := ⟨b, o, none⟩) h⟩

theorem pform_le (kind : Int) (x : Nat) (s : ByteArray) : (pform kind x s).length ≤ 10 + s.size := by
  have h1 := Wm.ulen_bd 9
  unfold pform
  split
  · simp; omega
  split
  · rw [Wm.uform_length]; have := h1 x; omega
  split
  · rw [Wm.uform_length]; have := h1 (foldI (toI64 x)).toNat; omega
  split
  · rw [wpre_length]; omega
  split
  · rw [List.length_append, Wm.uform_length, strI_length]; have := h1 s.size; omega
  · simp

theorem own_mono {w : World} {base base' : Nat} {v : Value} {n : Nat} {xs : List Value} (h : w.ownsRow base 5 1 v n xs) (hb : base' ≤ base) : w.ownsRow base' 5 1 v n xs := by
  refine ⟨h.1, ?_⟩
  rcases h.2 with h | ⟨g, cap, cur, h1, h2, h3⟩
  · exact .inl h
  · exact .inr ⟨g, cap, cur, h1, by omega, h3⟩

end Go.Proofs.YtlogmdldjmkkjaaGreatDoor
