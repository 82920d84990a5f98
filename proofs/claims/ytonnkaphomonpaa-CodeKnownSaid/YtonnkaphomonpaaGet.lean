/-
  One call of a reader, and what it answered.
-/
import Derived.Test.YtonnkaphomonpaaBackMath2
namespace Go.Proofs.Ytonnkaphomonpaa
open Go.RowKit

/-- What was stored into a new block changes no reader. -/
theorem got_close {w w1 : World} {r rb : Nat} {v2 : Value} {left : List Int} {e1 : Int} (b : Nat) (x0 x1 x2 : Value) (hrb : rb < w.heap.size) (hr : r < w.heap.size) (hb : w.heap.size ≤ b) (h1 : Rdr w1 r rb v2 left e1) (h2 : RFr r w w1) :
    Rdr (((w1.setCell ⟨b, 0, none⟩ x0).setCell ⟨b, 1, none⟩ x1).setCell ⟨b, 2, none⟩ x2) r rb v2 left e1 ∧ RFr r w (((w1.setCell ⟨b, 0, none⟩ x0).setCell ⟨b, 1, none⟩ x1).setCell ⟨b, 2, none⟩ x2) := by
  have hF : Fr (fun k => k = b) w1 (((w1.setCell ⟨b, 0, none⟩ x0).setCell ⟨b, 1, none⟩ x1).setCell ⟨b, 2, none⟩ x2) :=
    Fr.setCell (S := fun k => k = b) (Fr.setCell (S := fun k => k = b) (Fr.setCell (S := fun k => k = b) (Fr.refl (fun k => k = b) w1) ⟨b, 0, none⟩ (.inr rfl) x0) ⟨b, 1, none⟩ (.inr rfl) x1) ⟨b, 2, none⟩ (.inr rfl) x2
  refine ⟨h1.keep hF (by omega) (fun k off len cap hv => ?_), Fr.setCell (Fr.setCell (Fr.setCell h2 ⟨b, 0, none⟩ (.inl hb) x0) ⟨b, 1, none⟩ (.inl hb) x1) ⟨b, 2, none⟩ (.inl hb) x2⟩
  have := h1.ap k off len cap hv
  omega

def GetV (on kind n : Int) : Value := .agg #[.int .i64 on, .int .i64 kind, .int .i64 n]
def GotV (x : Int) (s : ByteArray) (e : Int) : Value := .agg #[.int .u64 x, .string s, .int .i64 e]
/-- What comes of one call: the answer, what is left to read, the error. -/
def GPost (r rb : Nat) (w : World) (x : Int) (s : ByteArray) (n : Int) (l : Value) (left : List Int) (e0 : Int) (e : Ending) (w' : World) : Prop :=
  e = .returned (.tuple #[GotV x s n, l]) ∧ ∃ v2, Rdr w' r rb v2 left e0 ∧ RFr r w w'
theorem wrapU8 (b : Int) (h : 0 ≤ b) (h2 : b < 256) : IntKind.u64.wrap b = b := by simp [IntKind.wrap, IntKind.signed, IntKind.bits]; omega

end Go.Proofs.Ytonnkaphomonpaa
