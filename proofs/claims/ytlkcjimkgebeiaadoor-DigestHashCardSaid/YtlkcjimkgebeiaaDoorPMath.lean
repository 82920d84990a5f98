/-
  What was told is of a beginning.
-/
import Derived.Test.YtlkcjimkgebeiaaDoorDSum
namespace Go.Proofs.YtlkcjimkgebeiaaDoor
open Go.RowKit

theorem lenB_inj (n m : Nat) : ∀ i, lenB n i = lenB m i → n * 8 % 2 ^ (8 * i) = m * 8 % 2 ^ (8 * i)
  | 0 => fun _ => by simp [Nat.mod_one]
  | i + 1 => fun h => by
    rw [lenB, lenB, List.cons.injEq] at h
    have h1 := lenB_inj n m i h.2
    have h2 : n * 8 / 2 ^ (8 * i) % 256 = m * 8 / 2 ^ (8 * i) % 256 := by omega
    rw [show 8 * (i + 1) = 8 * i + 8 from by omega, Nat.pow_add, Nat.mod_mul, Nat.mod_mul, h1]
    rw [show (2 : Nat) ^ 8 = 256 from rfl, h2]
theorem padT_inj {r q : List Int} {n m : Nat} (hr : r.length < 64) (hq : q.length < 64) (hn : n < 1152921504606846976) (hm : m < 1152921504606846976) (h : padT r n = padT q m) : n = m := by
  have h1 : lenB n 8 = lenB m 8 := by
    unfold padT at h
    exact (List.append_inj h (by rw [List.length_take, List.length_take, pad0_len r hr, pad0_len q hq])).2
  have h2 := lenB_inj n m 8 h1
  rw [Nat.mod_eq_of_lt (by omega), Nat.mod_eq_of_lt (by omega)] at h2
  omega
theorem TD.start : TD [] z128 z32 := ⟨.inl rfl⟩
theorem TD.grow {all tl dg : List Int} (h : TD all tl dg) (bs : List Int) : TD (all ++ bs) tl dg := by
  rcases h.ok with h | ⟨m, h1, h2, h3⟩
  · exact ⟨.inl h⟩
  · refine ⟨.inr ⟨m, by rw [List.length_append]; omega, ?_, ?_⟩⟩
    · rw [List.take_append_of_le_length h1]; exact h2
    · rw [List.take_append_of_le_length h1]; exact h3
theorem TD.told {all tl dg v op : List Int} {n : Nat} (h : TD all tl dg) (f : FD all v op n) (hn : n < 1152921504606846976) : tl = padT (op.take (n % 64)) n → dg = byF (endF v (padT (op.take (n % 64)) n)) 32 := by
  intro e
  have hl : (op.take (n % 64)).length < 64 := by rw [f.rest.1]; omega
  rw [f.dig]
  rcases h.ok with h | ⟨m, h1, h2, h3⟩
  · exact absurd (e.symm.trans h) (padT_ne _ _ hl)
  · have hml : ((all.take m).drop (64 * (m / 64))).length < 64 := by rw [List.length_drop, List.length_take]; omega
    have hnl := f.nl
    have hm : m = n := padT_inj hml hl (by omega) hn (h2.symm.trans e)
    rw [h3, hm, hnl, List.take_of_length_le (Nat.le_refl _)]
theorem TD.summed {all v op : List Int} {n : Nat} (f : FD all v op n) : TD all (padT (op.take (n % 64)) n) (byF (endF v (padT (op.take (n % 64)) n)) 32) := by
  refine ⟨.inr ⟨n, by rw [f.nl]; exact Nat.le_refl _, ?_, ?_⟩⟩
  · rw [f.oo, f.nl, List.take_of_length_le (Nat.le_refl _)]
  · rw [f.dig, f.nl, List.take_of_length_le (Nat.le_refl _)]
end Go.Proofs.YtlkcjimkgebeiaaDoor
