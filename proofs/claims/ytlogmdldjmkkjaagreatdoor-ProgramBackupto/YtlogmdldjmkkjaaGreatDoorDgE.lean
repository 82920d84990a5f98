/-
  A digest in a box.
-/
import Derived.Test.YtlogmdldjmkkjaaGreatDoorWrite
namespace Go.Proofs.YtlogmdldjmkkjaaGreatDoor.dg
open Go.RowKit
set_option linter.unusedVariables false
/-- A new box for an array that was answered. -/
theorem boxed (w : World) (ys : List Int) (hy : ys.length = 32) : Seg ((w.alloc (.cells (Ar .u8 z32) 30)).setCells w.heap.size 0 (ys.map (Value.int .u8))) w.heap.size 0 .u8 ys ∧
    Below w.heap.size w ((w.alloc (.cells (Ar .u8 z32) 30)).setCells w.heap.size 0 (ys.map (Value.int .u8))) ∧ w.heap.size < ((w.alloc (.cells (Ar .u8 z32) 30)).setCells w.heap.size 0 (ys.map (Value.int .u8))).heap.size := by
  have h0 := Seg.fresh w 30 .u8 z32
  have hs := Seg.stored (k := .u8) (w := w.alloc (.cells (Ar .u8 z32) 30)) (b := w.heap.size) (o := 0) ys (by rw [hy]; exact h0.2)
  have F := Fr.setCells (S := fun _ => False) (a := w) w.heap.size (.inl (Nat.le_refl _)) (ys.map (Value.int .u8)) 0 ((Fr.refl _ w).alloc (.cells (Ar .u8 z32) 30))
  exact ⟨hs, F.below (Nat.le_refl _) (by simp), World.block_lt_of_cell? _ _ (hs.cell 0 (by omega))⟩
theorem there_new (w : World) : (w.alloc (.cells (Ar .u8 z32) 30)).there w.heap.size 0 32 := (Seg.fresh w 30 .u8 z32).2
theorem Seg.below {w w' : World} {b o : Nat} {k : IntKind} {xs : List Int} (h : Seg w b o k xs) (f : Below w.heap.size w w') (hb : b < w.heap.size) : Seg w' b o k xs := h.keepB (f.block b hb)

theorem arr_eql (D : List Int) (h : D.length = 32) (w : World) : (Op.equalIn 10000 30 (.agg (Ar .u8 D)) (.agg (Ar .u8 D))).run Tryz.prog w = .ok true w := by
  obtain ⟨i0, hi0, _⟩ := info_parts Tryz.info5
  have := run_equal_ar (P := Tryz.prog) w 9998 30 5 32 .u8 .u8 i0 Tryz.underlying30 hi0 (by kernel_rfl) Tryz.underlying5 (Tryz.isAgg5 w) D D h h
  rw [this, beq_self_eq_true]

theorem yieldsIf_neq30 {ops : Array Oper} {S : World → Prop} {op : Oper} {a : Act} (hw : Region.wanted op (yielded ops a.tmps) = true) (x y : Operand) (ty : TypeId) (ho : op.op = .binOp .neq 30 x y ty)
    (xs : List Int) (hx : a.eval x = .agg (Ar .u8 xs)) (hy : a.eval y = .agg (Ar .u8 xs)) (lx : xs.length = 32) : YieldsIf Tryz.prog ops S op (.bool false) a :=
  .inl ⟨hw, fun w _ => by
    unfold execOp
    have h1 := run_eqGuard_agg (P := Tryz.prog) w .neq 30 x y (Ar .u8 xs) (Ar .u8 xs) Tryz.eqGuardType30
    have h2 := run_neq_struct (P := Tryz.prog) w 30 (Ar .u8 xs) (Ar .u8 xs)
    rw [arr_eql xs lx w, Result.andThen_ok] at h2
    simp only [ho, hx, hy, Sem.run_bind, h1, Result.andThen_ok, h2, Sem.run_pure]
    rfl⟩
theorem KT.bl {w w' : World} (h : KT w) (f : Below w.heap.size w w') : KT w' := h.below h.2 f
end Go.Proofs.YtlogmdldjmkkjaaGreatDoor.dg
