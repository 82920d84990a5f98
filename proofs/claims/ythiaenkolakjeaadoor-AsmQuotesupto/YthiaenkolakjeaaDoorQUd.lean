/-
  What stands between quotes, whole.
-/
import Derived.Test.YthiaenkolakjeaaDoorQOne
namespace Go.Proofs.YthiaenkolakjeaaDoor
open Go.RowKit Go.Shelf
set_option linter.unusedVariables false
set_option linter.unusedSimpArgs false
/-- The text that stands between quotes, if it is one. -/
def un : Nat → List UInt8 → Option (List UInt8)
  | 0, l => if l = [] then some [] else none
  | f + 1, l => if l = [] then some [] else if (mn l).2 = 0 then none else (un f (l.drop (mn l).2)).map (UInt8.ofNat (mn l).1 :: ·)
theorem mn_le (l : List UInt8) : (mn l).2 ≤ l.length := by
  match l with
  | [] => simp [mn]
  | c :: r =>
    simp only [mn]
    split
    · simp
    · split
      · simp
      · match r with
        | [] => simp
        | d :: q =>
          simp only
          split
          · simp
          · split
            · simp
            · split
              · match q with
                | [] => simp
                | [x] => simp
                | x :: y :: t => simp only; split <;> simp
              · simp
theorem mn_byte (l : List UInt8) : (mn l).1 < 256 := by
  match l with
  | [] => simp [mn]
  | c :: r =>
    have hc := c.toNat_lt
    simp only [mn]
    split
    · simp
    · split
      · simpa using hc
      · match r with
        | [] => simp
        | d :: q =>
          have hd := d.toNat_lt
          simp only
          split
          · simpa using hd
          · split
            · simp
            · split
              · match q with
                | [] => simp
                | [x] => simp
                | x :: y :: t =>
                  simp only
                  split
                  · rename_i h; simp only; omega
                  · simp
              · simp
theorem un_nil (f : Nat) : un f [] = some [] := by cases f <;> simp [un]
theorem un_cons (f : Nat) (c : UInt8) (r : List UInt8) : un (f + 1) (c :: r) = if (mn (c :: r)).2 = 0 then none else (un f ((c :: r).drop (mn (c :: r)).2)).map (UInt8.ofNat (mn (c :: r)).1 :: ·) := by
  rw [un, if_neg (List.cons_ne_nil c r)]
/-- More fuel tells the same. -/
theorem un_more (f : Nat) : ∀ (l : List UInt8), l.length ≤ f → ∀ g, l.length ≤ g → un f l = un g l := by
  induction f with
  | zero =>
    intro l h g hg
    have : l = [] := List.eq_nil_of_length_eq_zero (by omega)
    subst this
    rw [un_nil, un_nil]
  | succ f ih =>
    intro l h g hg
    cases l with
    | nil => rw [un_nil, un_nil]
    | cons c r =>
      cases g with
      | zero => simp at hg
      | succ g =>
        rw [un_cons, un_cons]
        by_cases z : (mn (c :: r)).2 = 0
        · rw [if_pos z, if_pos z]
        · rw [if_neg z, if_neg z]
          rw [List.length_cons] at h hg
          rw [ih _ (by rw [List.length_drop, List.length_cons]; omega) g (by rw [List.length_drop, List.length_cons]; omega)]
/-- One step. -/
theorem un_step {l : List UInt8} (h0 : l ≠ []) : un l.length l = if (mn l).2 = 0 then none else (un (l.drop (mn l).2).length (l.drop (mn l).2)).map (UInt8.ofNat (mn l).1 :: ·) := by
  cases l with
  | nil => exact absurd rfl h0
  | cons c r =>
    rw [List.length_cons, un_cons]
    by_cases z : (mn (c :: r)).2 = 0
    · rw [if_pos z, if_pos z]
    · rw [if_neg z, if_neg z]
      rw [un_more r.length _ (by rw [List.length_drop, List.length_cons]; omega) _ (Nat.le_refl _)]
end Go.Proofs.YthiaenkolakjeaaDoor
