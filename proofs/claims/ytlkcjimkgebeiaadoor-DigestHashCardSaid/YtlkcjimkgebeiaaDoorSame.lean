/-
  Both reckon the same.
-/
import Derived.Test.YtlkcjimkgebeiaaDoorRSum
namespace Go.Proofs.YtlkcjimkgebeiaaDoor
open Go.RowKit

theorem padT_eq (r : List Int) (n : Nat) (h : r.length < 64) : padT r n = List.replicate (bas r.length) 0 ++ (r ++ ([128] ++ (List.replicate (119 - bas r.length - r.length) 0 ++ lenB n 8))) := by
  have hb : bas r.length + r.length + 1 ≤ 120 := by unfold bas; split <;> omega
  obtain ⟨b, hbe⟩ : ∃ b, bas r.length = b := ⟨_, rfl⟩
  rw [hbe] at hb ⊢
  have e1 : pad0 r = (List.replicate b 0 ++ r ++ [128]) ++ List.replicate (127 - b - r.length) 0 := by
    unfold pad0 z128
    rw [hbe, List.take_replicate, List.drop_replicate, Nat.min_eq_left (by omega), show 128 - (b + r.length) = (127 - b - r.length) + 1 by omega, List.replicate_succ,
      List.set_append_right _ _ (by rw [List.length_append, List.length_replicate]; omega), List.length_append, List.length_replicate, Nat.sub_self]
    simp
  unfold padT
  rw [e1, List.take_append, List.take_of_length_le (by simp; omega), List.take_replicate]
  have e2 : min (120 - (List.replicate b (0 : Int) ++ r ++ [128]).length) (127 - b - r.length) = 119 - b - r.length := by
    simp only [List.length_append, List.length_replicate, List.length_cons, List.length_nil]; omega
  rw [e2]
  simp
theorem same_sum (B : List Int) : byF (wordsOf (padA B) ((padA B).length / 64)) 32 = digF B := by
  unfold digF
  congr 1
  have hl := padA_len B
  have hz := zeroN_ok B.length
  obtain ⟨q, hq⟩ : ∃ q, B.length / 64 = q := ⟨_, rfl⟩
  have hqm : 64 * q ≤ B.length := by omega
  rw [hq]
  have hrl : (B.drop (64 * q)).length = B.length % 64 := by rw [List.length_drop]; omega
  have hpt := padT_eq (B.drop (64 * q)) B.length (by rw [hrl]; omega)
  have hA : padA B = B ++ ([128] ++ (List.replicate (zeroN B.length) 0 ++ lenB B.length 8)) := by unfold padA; simp
  have hd : (padA B).drop (64 * q) = B.drop (64 * q) ++ ([128] ++ (List.replicate (zeroN B.length) 0 ++ lenB B.length 8)) := by rw [hA, List.drop_append_of_le_length hqm]
  have hw : wordsOf (padA B) q = wordsOf B q := by rw [hA]; exact wordsOf_app B _ q hqm
  rw [hrl] at hpt
  have hdl : ((padA B).drop (64 * q)).length = (padA B).length - 64 * q := List.length_drop
  by_cases h56 : B.length % 64 < 56
  · have hb : bas (B.length % 64) = 64 := if_pos h56
    have hzn : zeroN B.length = 55 - B.length % 64 := by unfold zeroN; omega
    have hL : (padA B).length / 64 = q + 1 := by omega
    rw [hb, show 119 - 64 - B.length % 64 = zeroN B.length by omega, ← hd] at hpt
    rw [hL, wordsOf, hw, hpt]
    unfold endF
    have ht : (List.replicate 64 0 ++ List.drop (64 * q) (padA B)).take 64 = z64 := by
      rw [List.take_append_of_le_length (by rw [List.length_replicate]; omega), List.take_of_length_le (by rw [List.length_replicate]; omega)]; rfl
    have hdr : (List.replicate 64 0 ++ List.drop (64 * q) (padA B)).drop 64 = List.drop (64 * q) (padA B) := by
      rw [List.drop_append_of_le_length (by rw [List.length_replicate]; omega), List.drop_of_length_le (by rw [List.length_replicate]; omega), List.nil_append]
    rw [if_pos ht, hdr, List.take_of_length_le (by rw [hdl]; omega)]
  · have hb : bas (B.length % 64) = 0 := if_neg h56
    have hzn : zeroN B.length = 119 - B.length % 64 := by unfold zeroN; omega
    have hL : (padA B).length / 64 = q + 1 + 1 := by omega
    rw [hb, show 119 - 0 - B.length % 64 = zeroN B.length by omega, ← hd, List.replicate_zero, List.nil_append] at hpt
    rw [hL, wordsOf, wordsOf, hw, hpt]
    unfold endF
    have hne : ((padA B).drop (64 * q)).take 64 ≠ z64 := by
      intro e
      have h1 : (((padA B).drop (64 * q)).take 64)[B.length % 64]? = some 128 := by
        rw [List.getElem?_take, if_pos (by omega), hd, List.getElem?_append_right (by omega), hrl, Nat.sub_self]; rfl
      rw [e] at h1
      have := List.eq_of_mem_replicate (List.mem_of_getElem? h1)
      omega
    rw [if_neg hne, show 64 * (q + 1) = 64 * q + 64 by omega, ← List.drop_drop, List.take_of_length_le (l := List.drop 64 _) (by rw [List.length_drop]; omega)]
end Go.Proofs.YtlkcjimkgebeiaaDoor
