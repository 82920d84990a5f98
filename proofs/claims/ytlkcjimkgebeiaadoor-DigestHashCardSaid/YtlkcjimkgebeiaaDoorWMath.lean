/-
  What a hash holds.
-/
import Derived.Test.YtlkcjimkgebeiaaDoorHash
namespace Go.Proofs.YtlkcjimkgebeiaaDoor
open Go.RowKit

/-- The words behind the first m blocks. -/
def wordsOf (all : List Int) : Nat → List Int
  | 0 => iv
  | m + 1 => behF (wordsOf all m) ((all.drop (64 * m)).take 64)
theorem wordsOf_app (all x : List Int) : ∀ m, 64 * m ≤ all.length → wordsOf (all ++ x) m = wordsOf all m
  | 0, _ => rfl
  | m + 1, h => by
    rw [wordsOf, wordsOf, wordsOf_app all x m (by omega), List.drop_append_of_le_length (by omega), List.take_append_of_le_length (by rw [List.length_drop]; omega)]
/-- A hash holds these bytes. -/
structure FD (all v op : List Int) (n : Nat) : Prop where
  nl : n = all.length
  vv : v = wordsOf all (n / 64)
  oo : op.take (n % 64) = all.drop (64 * (n / 64))
  lo : op.length = 64
theorem FD.start : FD [] iv z64 0 := ⟨rfl, rfl, rfl, rfl⟩
/-- The open block behind one more piece. -/
def opb (op : List Int) (h : Nat) (c : List Int) : List Int := op.take h ++ c ++ op.drop (h + c.length)
theorem opn_len (op : List Int) (h : Nat) (c : List Int) (ho : op.length = 64) (hc : h + c.length ≤ 64) : (opb op h c).length = 64 := by
  unfold opb; simp only [List.length_append, List.length_take, List.length_drop, ho]; omega
theorem opn_take (op : List Int) (h : Nat) (c : List Int) (ho : op.length = 64) (hc : h + c.length ≤ 64) : (opb op h c).take (h + c.length) = op.take h ++ c := by
  unfold opb
  rw [List.take_append_of_le_length (by simp only [List.length_append, List.length_take, ho]; omega), List.take_of_length_le (by simp only [List.length_append, List.length_take, ho]; omega)]
theorem FD.step {all v op : List Int} {n : Nat} (h : FD all v op n) (c : List Int) (hc : n % 64 + c.length ≤ 64) :
    FD (all ++ c) (if (n + c.length) % 64 = 0 ∧ c ≠ [] then behF v (opb op (n % 64) c) else v) (opb op (n % 64) c) (n + c.length) := by
  have h1 := h.nl
  have h2 := opn_take op (n % 64) c h.lo hc
  refine ⟨by rw [List.length_append, h.nl], ?_, ?_, opn_len op _ c h.lo hc⟩
  · by_cases hz : (n + c.length) % 64 = 0 ∧ c ≠ []
    · rw [if_pos hz]
      have hcl : 0 < c.length := List.length_pos_iff.2 hz.2
      have hf : n % 64 + c.length = 64 := by have := hz.1; omega
      have hd : (n + c.length) / 64 = n / 64 + 1 := by omega
      rw [hd, wordsOf, wordsOf_app all c _ (by omega), ← h.vv]
      congr 1
      rw [hf, List.take_of_length_le (by rw [opn_len op _ c h.lo hc]; omega)] at h2
      rw [h2, h.oo, List.drop_append_of_le_length (by omega), List.take_of_length_le (by rw [List.length_append, List.length_drop]; omega)]
    · rw [if_neg hz]
      have hd : (n + c.length) / 64 = n / 64 := by
        by_cases hcn : c = []
        · rw [hcn]; rfl
        · have : ¬ (n + c.length) % 64 = 0 := fun e => hz ⟨e, hcn⟩
          omega
      rw [hd, wordsOf_app all c _ (by omega)]
      exact h.vv
  · by_cases hf : n % 64 + c.length = 64
    · have hm : (n + c.length) % 64 = 0 := by omega
      have hd : (n + c.length) / 64 = n / 64 + 1 := by omega
      rw [hm, hd, List.take_zero, List.drop_of_length_le (by rw [List.length_append]; omega)]
    · have hm : (n + c.length) % 64 = n % 64 + c.length := by omega
      have hd : (n + c.length) / 64 = n / 64 := by omega
      rw [hm, hd, h2, h.oo, List.drop_append_of_le_length (by omega)]
theorem opn_bok {op c : List Int} (h : Nat) (ho : BOk op) (hc : BOk c) : BOk (opb op h c) := by
  intro b hb
  unfold opb at hb
  rcases List.mem_append.1 hb with hb | hb
  · rcases List.mem_append.1 hb with hb | hb
    · exact ho b (List.mem_of_mem_take hb)
    · exact hc b hb
  · exact ho b (List.mem_of_mem_drop hb)
end Go.Proofs.YtlkcjimkgebeiaaDoor
