/-
  The document's beginning and table.
-/
import Derived.Test.YtlkcjimkgebeiaaDoorRWords
namespace Go.Proofs.YtlkcjimkgebeiaaDoor
open Go.RowKit

theorem Tryd.info42 : (Tryd.prog.info? 42).map (·.size) = some 8 := by kernel_rfl
theorem Tryd.zero42 : (Tryd.prog.info? 42).map (fun i => (i.zero, i.size)) = some (some (.agg (Ar .u32 z8)), 8) := by kernel_rfl

set_option maxHeartbeats 1600000 in
set_option maxRecDepth 100000 in
theorem first_any (w : World) : Calls Tryd.prog 20 #[] w fun e w' => e = .returned (.agg (Ar .u32 iv)) ∧ Below w.heap.size w w' := by
  have hz := hide Tryd.zero42
  have H0 := hide (Seg.fresh w 42 .u32 z8)
  go_enter Tryd.func20, Tryd.ntmps20
  go_wp2_with (first | (refine wpList_alloc_ar rfl 42 rfl (Ar .u32 z8) 8 (unhide hz) ?_) | (refine wpList_store_ar rfl 42 _ _ rfl w.heap.size 0 rfl .u32 iv 8 rfl rfl (unhide H0).2 Tryd.info42 ?_))
  have hl := iv_len
  have ht : (w.alloc (.cells (Ar .u32 z8) 42)).there w.heap.size 0 8 := (unhide H0).2
  generalize iv = ys at *
  generalize hz8 : Ar .u32 z8 = zz at *
  have hs := Seg.stored (k := .u32) ys (by rw [hl]; exact ht)
  refine bodyPost_ret (v := .agg (Ar .u32 ys)) ?_ rfl ⟨rfl, ?_⟩
  · rw [results_cell_one rfl]
    have hld := run_loadVar_ar (P := Tryd.prog) _ w.heap.size 0 42 .u32 ys _ 8 hs hl Tryd.underlying42 rfl Tryd.info42
    exact hld
  · have F := Fr.setCells (S := fun _ => False) (a := w) w.heap.size (.inl (Nat.le_refl _)) (ys.map (Value.int .u32)) 0 ((Fr.refl _ w).alloc (.cells zz 42))
    exact F.below (Nat.le_refl _) (by simp)

set_option maxHeartbeats 1600000 in
set_option maxRecDepth 100000 in
theorem table_any (w : World) : Calls Tryd.prog 30 #[] w fun e w' => e = .returned (.agg (Ar .u32 ktab)) ∧ Below w.heap.size w w' := by
  have hz := hide Tryd.zero63
  have H0 := hide (Seg.fresh w 63 .u32 z64)
  go_enter Tryd.func30, Tryd.ntmps30
  go_wp2_with (first | (refine wpList_alloc_ar rfl 63 rfl (Ar .u32 z64) 64 (unhide hz) ?_) | (refine wpList_store_ar rfl 63 _ _ rfl w.heap.size 0 rfl .u32 ktab 64 rfl rfl (unhide H0).2 Tryd.info63 ?_))
  have hl := ktab_len
  have ht : (w.alloc (.cells (Ar .u32 z64) 63)).there w.heap.size 0 64 := (unhide H0).2
  generalize ktab = ys at *
  generalize hz8 : Ar .u32 z64 = zz at *
  have hs := Seg.stored (k := .u32) ys (by rw [hl]; exact ht)
  refine bodyPost_ret (v := .agg (Ar .u32 ys)) ?_ rfl ⟨rfl, ?_⟩
  · rw [results_cell_one rfl]
    have hld := run_loadVar_ar (P := Tryd.prog) _ w.heap.size 0 63 .u32 ys _ 64 hs hl Tryd.underlying63 rfl Tryd.info63
    exact hld
  · have F := Fr.setCells (S := fun _ => False) (a := w) w.heap.size (.inl (Nat.le_refl _)) (ys.map (Value.int .u32)) 0 ((Fr.refl _ w).alloc (.cells zz 63))
    exact F.below (Nat.le_refl _) (by simp)
end Go.Proofs.YtlkcjimkgebeiaaDoor
