/-
  The first spots, in the order of their places.
-/
import Derived.Test.YtjjfpokmpcpicaaBk0
namespace Go.Proofs.Ytjjfpokmpcpicaa
set_option linter.unusedVariables false
def pre {α : Type} : List (List α) → Nat → List (List α)
  | [], _ => []
  | l :: r, k => l.take k :: pre r (k - l.length)
theorem pre_zero {α : Type} : ∀ f : List (List α), pre f 0 = List.replicate f.length []
  | [] => rfl
  | l :: r => by rw [pre, Nat.zero_sub, pre_zero r, List.take_zero]; rfl
theorem pre_len {α : Type} : ∀ (f : List (List α)) (k : Nat), (pre f k).length = f.length
  | [], _ => rfl
  | l :: r, k => by rw [pre, List.length_cons, pre_len r, List.length_cons]
theorem pre_all {α : Type} : ∀ (f : List (List α)) (k : Nat), (f.map List.length).sum ≤ k → pre f k = f
  | [], _, _ => rfl
  | l :: r, k, h => by
    rw [List.map_cons, List.sum_cons] at h
    rw [pre, List.take_of_length_le (by omega), pre_all r _ (by omega)]
theorem pre_step {α : Type} : ∀ (f : List (List α)) (k o : Nat), k < (f.map List.length).sum → ∃ (i : Nat) (l : List α) (j : Nat) (x : α), f[i]? = some l ∧ l[j]? = some x ∧ (plc (f.map List.length) o)[k]? = some (((o + i : Nat) : Int), (j : Int)) ∧ (pre f k)[i]? = some (l.take j) ∧ pre f (k + 1) = (pre f k).set i (l.take j ++ [x])
  | [], k, o, h => by simp at h
  | l :: r, k, o, h => by
    rw [List.map_cons, List.sum_cons] at h
    rw [List.map_cons, plc]
    have hpl : (plr o l.length).length = l.length := by simp [plr]
    by_cases hk : k < l.length
    · refine ⟨0, l, k, l[k], rfl, List.getElem?_eq_getElem hk, ?_, ?_, ?_⟩
      · rw [List.getElem?_append_left (by omega)]
        unfold plr
        rw [List.getElem?_map, List.getElem?_range hk]
        rfl
      · rw [pre]; rfl
      · rw [pre, pre, Nat.sub_eq_zero_of_le (by omega), Nat.sub_eq_zero_of_le (by omega), List.take_add_one, List.getElem?_eq_getElem hk]
        rfl
    · obtain ⟨i, l', j, x, h1, h2, h3, h4, h5⟩ := pre_step r (k - l.length) (o + 1) (by omega)
      refine ⟨i + 1, l', j, x, by simpa using h1, h2, ?_, ?_, ?_⟩
      · rw [List.getElem?_append_right (by omega), hpl, h3, show o + 1 + i = o + (i + 1) by omega]
      · rw [pre, List.getElem?_cons_succ]; exact h4
      · rw [pre, pre, List.set_cons_succ, ← h5, List.take_of_length_le (by omega), List.take_of_length_le (by omega), show k + 1 - l.length = k - l.length + 1 by omega]
end Go.Proofs.Ytjjfpokmpcpicaa
