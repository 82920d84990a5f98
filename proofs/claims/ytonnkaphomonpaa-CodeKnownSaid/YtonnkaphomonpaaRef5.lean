/-
  The document's reader: Text.
-/
import Derived.Test.YtonnkaphomonpaaRef4
namespace Go.Proofs.Ytonnkaphomonpaa
open Go.RowKit

/-- A part of a row reads so. -/
theorem Rd.part {w : World} {b off cap : Nat} {B : List Int} (h : Rd w (.slice (some ⟨b, off, none⟩) B.length cap) B) (o' : Nat) (f x : Nat) (hx : f + x ≤ B.length) (ho : x ≠ 0 → o' = off + f) :
    Rd w (.slice (some ⟨b, o', none⟩) x (cap - f)) ((B.drop f).take x) := by
  have hl : ((B.drop f).take x).length = x := by simp; omega
  rcases h with ⟨e, _⟩ | ⟨b', off', cap', e, h1, h2, h3, h4⟩
  · simp at e
  · simp only [Value.slice.injEq, Option.some.injEq, Addr.mk.injEq, true_and, and_true] at e
    obtain ⟨⟨rfl, rfl⟩, rfl⟩ := e
    refine .inr ⟨b, o', cap - f, by rw [hl], by rw [hl]; omega, by omega, h3, fun i hi => ?_⟩
    rw [hl] at hi
    rw [ho (by omega), Nat.add_assoc, h4 (f + i) (by omega)]
    simp [List.getD, hi]

theorem Rd.cap_le {w : World} {a : Option Addr} {len cap : Nat} {bs : List Int} (h : Rd w (.slice a len cap) bs) : bs.length ≤ cap ∧ cap ≤ maxLen := by
  rcases h with ⟨e, rfl⟩ | ⟨b, off, cap', e, h1, h2, _⟩
  · simp only [Value.slice.injEq] at e
    exact ⟨Nat.zero_le _, by rw [e.2.2]; exact Nat.zero_le _⟩
  · simp only [Value.slice.injEq] at e
    rw [e.2.2]
    exact ⟨h1, h2⟩

end Go.Proofs.Ytonnkaphomonpaa
