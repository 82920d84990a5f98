/-
  Two sets compared.
-/
import Derived.Test.YtiamoinhmkhaoaaWm0
import Derived.ChangeKeysEq
namespace Go.Proofs.Ytiamoinhmkhaoaa
open Go.RowKit
set_option linter.unusedVariables false
set_option linter.unusedSimpArgs false
theorem eq57 (X : World) (a b : Int) : (Op.equalIn 9999 57 (.int .u64 a) (.int .u64 b)).run Try.prog X = .ok (a == b) X := by
  go_simp
theorem eqStep (X : World) (xs ys : Array Value) (j : Nat) (js : List Nat) (a b : Int) (hx : xs[j]? = some (.int .u64 a)) (hy : ys[j]? = some (.int .u64 b)) : (Op.eqItems 9999 57 1 xs ys (j :: js)).run Try.prog X = if a = b then (Op.eqItems 9999 57 1 xs ys js).run Try.prog X else .ok false X := by
  have p1 := run_part_plain (P := Try.prog) X (e := 57) (by kernel_rfl) (off := j) hx
  have p2 := run_part_plain (P := Try.prog) X (e := 57) (by kernel_rfl) (off := j) hy
  simp only [Op.eqItems, Sem.run_bind, Nat.mul_one, p1, p2, eq57, Result.andThen_ok]
  by_cases h : a = b
  · simp [h]
  · simp [h]
theorem eqSet (A B : Wd) (X : World) (hh : ∀ j, j < 8 → A j = B j) : (Op.equalIn 10000 59 (.agg (wdA A)) (.agg (wdA B))).run Try.prog X = .ok true X := by
  obtain ⟨i, hi, _, hs, _⟩ := info_parts (show (Try.prog.info? 57).map (fun i => (i.zero, i.size, i.bytes)) = some (some (.int .u64 0), 1, 8) by kernel_rfl)
  have hc : Try.prog.cellsOf 57 = 1 := by kernel_rfl
  rw [run_equalIn_array X 9999 (wdA A) (wdA B) (show Try.prog.underlying 59 = some (.array 8 57) by kernel_rfl) hi, hc]
  rw [show List.range 8 = [0, 1, 2, 3, 4, 5, 6, 7] from rfl]
  rw [eqStep X _ _ 0 _ _ _ rfl rfl, if_pos (by rw [hh 0 (by omega)]), eqStep X _ _ 1 _ _ _ rfl rfl, if_pos (by rw [hh 1 (by omega)]), eqStep X _ _ 2 _ _ _ rfl rfl, if_pos (by rw [hh 2 (by omega)]), eqStep X _ _ 3 _ _ _ rfl rfl, if_pos (by rw [hh 3 (by omega)]), eqStep X _ _ 4 _ _ _ rfl rfl, if_pos (by rw [hh 4 (by omega)]), eqStep X _ _ 5 _ _ _ rfl rfl, if_pos (by rw [hh 5 (by omega)]), eqStep X _ _ 6 _ _ _ rfl rfl, if_pos (by rw [hh 6 (by omega)]), eqStep X _ _ 7 _ _ _ rfl rfl, if_pos (by rw [hh 7 (by omega)])]
  simp [Op.eqItems]
theorem eqSet_no (A B : Wd) (X : World) (hh : ¬ ∀ j, j < 8 → A j = B j) : (Op.equalIn 10000 59 (.agg (wdA A)) (.agg (wdA B))).run Try.prog X = .ok false X := by
  obtain ⟨i, hi, _, hs, _⟩ := info_parts (show (Try.prog.info? 57).map (fun i => (i.zero, i.size, i.bytes)) = some (some (.int .u64 0), 1, 8) by kernel_rfl)
  have hc : Try.prog.cellsOf 57 = 1 := by kernel_rfl
  rw [run_equalIn_array X 9999 (wdA A) (wdA B) (show Try.prog.underlying 59 = some (.array 8 57) by kernel_rfl) hi, hc]
  rw [show List.range 8 = [0, 1, 2, 3, 4, 5, 6, 7] from rfl]
  rw [eqStep X _ _ 0 _ _ _ rfl rfl, eqStep X _ _ 1 _ _ _ rfl rfl, eqStep X _ _ 2 _ _ _ rfl rfl, eqStep X _ _ 3 _ _ _ rfl rfl, eqStep X _ _ 4 _ _ _ rfl rfl, eqStep X _ _ 5 _ _ _ rfl rfl, eqStep X _ _ 6 _ _ _ rfl rfl, eqStep X _ _ 7 _ _ _ rfl rfl]
  by_cases h0 : (A 0 : Int) = (B 0 : Int) <;> by_cases h1 : (A 1 : Int) = (B 1 : Int) <;> by_cases h2 : (A 2 : Int) = (B 2 : Int) <;> by_cases h3 : (A 3 : Int) = (B 3 : Int) <;> simp only [h0, h1, h2, h3, if_true, if_false]
  by_cases h4 : (A 4 : Int) = (B 4 : Int)
  · rw [if_pos h4]
    by_cases h5 : (A 5 : Int) = (B 5 : Int)
    · rw [if_pos h5]
      by_cases h6 : (A 6 : Int) = (B 6 : Int)
      · rw [if_pos h6]
        by_cases h7 : (A 7 : Int) = (B 7 : Int)
        · refine absurd (fun j hj => ?_) hh
          match j, hj with
          | 0, _ => omega
          | 1, _ => omega
          | 2, _ => omega
          | 3, _ => omega
          | 4, _ => omega
          | 5, _ => omega
          | 6, _ => omega
          | 7, _ => omega
          | (n + 8), h => omega
        · rw [if_neg h7]
      · rw [if_neg h6]
    · rw [if_neg h5]
  · rw [if_neg h4]
end Go.Proofs.Ytiamoinhmkhaoaa
