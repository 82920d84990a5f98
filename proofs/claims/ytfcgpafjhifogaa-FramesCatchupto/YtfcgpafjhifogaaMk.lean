/-
  Rows that were made.
-/
import Derived.Test.YtfcgpafjhifogaaFun
import Derived.Laws.MakeOwn
namespace Go.Proofs.Ytfcgpafjhifogaa
open Go.RowKit
set_option linter.unusedVariables false
set_option linter.unusedSimpArgs false
theorem made_at (z : Array Value) (m j : Nat) (hj : j < m) : (madeCells z m)[j]? = some (z[j % z.size]!) := by
  simp [madeCells, hj]
/-- A row of zeros. -/
theorem made_ro {T : Type} (en : T → List Value) (z0 : T) (z : Array Value) (sz : Nat) (hz : ∀ x, (en x).length = sz) (h0 : 0 < sz) (he : z.toList = en z0) (w : World) (e : TypeId) (N : Nat) (hN : N ≤ maxLen) :
    Ro (w.alloc (.cells (madeCells z (N * sz)) e)) sz (.slice (some ⟨w.heap.size, 0, none⟩) N N) N (flt en (List.replicate N z0)) := by
  have hzs : z.size = sz := by rw [← Array.length_toList, he, hz]
  refine ⟨by rw [flt_length hz, List.length_replicate], .inr ⟨w.heap.size, 0, N, _, e, rfl, heap_alloc_new w _, Nat.le_refl _, hN, by rw [size_madeCells]; omega, fun j hj => ?_⟩⟩
  rw [Nat.zero_add, made_at _ _ _ hj, hzs]
  have hq : j / sz < N := Nat.div_lt_of_lt_mul (by rw [Nat.mul_comm]; exact hj)
  have hr : j % sz < sz := Nat.mod_lt _ h0
  have ej : j = j / sz * sz + j % sz := by rw [Nat.mul_comm]; exact (Nat.div_add_mod j sz).symm
  conv => rhs; rw [ej]
  rw [flt_at hz (p := z0) (by simp [hq]) (j % sz) hr, ← he]
  rw [Array.getElem?_toList, getElem!_pos z _ (by omega), Array.getElem?_eq_getElem]
end Go.Proofs.Ytfcgpafjhifogaa
