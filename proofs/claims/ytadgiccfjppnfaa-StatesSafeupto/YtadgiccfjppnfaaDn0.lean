/-
  The document's next instruction.
-/
import Derived.Test.YtadgiccfjppnfaaBk
namespace Go.Proofs.Ytadgiccfjppnfaa
open Go.RowKit
set_option linter.unusedVariables false
set_option linter.unusedSimpArgs false
theorem results_cct {fn : Func} {p q u : Tmp} {t1 t2 : TypeId} (h : fn.results = #[.cell p t1, .cell q t2, .tmp u]) (tmps : Array Value) (P : Program) (w : World) :
    (results fn tmps).run P w = ((asAddr (tmps.getD p undef)).run P w).andThen fun a w₁ => ((loadVar t1 a).run P w₁).andThen fun v1 w₂ => ((asAddr (tmps.getD q undef)).run P w₂).andThen fun a2 w₃ => ((loadVar t2 a2).run P w₃).andThen fun v2 w₄ => .ok (.tuple #[v1, v2, tmps.getD u undef]) w₄ := by
  simp only [results, h]
  simp [Sem.run_bind, Result.andThen]
theorem bl_four (w : World) (o1 o2 o3 o4 : Obj) : Below w.heap.size w ((((w.alloc o1).alloc o2).alloc o3).alloc o4) := (bl_three w o1 o2 o3).alloc (by simp only [World.size_alloc]; omega) o4
theorem bl_five (w : World) (o1 o2 o3 o4 o5 : Obj) : Below w.heap.size w (((((w.alloc o1).alloc o2).alloc o3).alloc o4).alloc o5) := (bl_four w o1 o2 o3 o4).alloc (by simp only [World.size_alloc]; omega) o5
/-- The next instruction of a fiber, and its last frame. -/
def nxD (p : Pg) (s : St) (k : Int) : Option ((Int × Int) × Fm) :=
  if 0 ≤ k ∧ k < (s.fibs.length : Int) then ((s.fibs[k.toNat]?).bind (fun fs => fs.getLast?)).bind (fun f => (insF p f.fn f.pc).map (fun x => (x, f))) else none
/-- What Next answers. -/
def DnP (w : World) (r : Option ((Int × Int) × Fm)) (e : Ending) (w' : World) : Prop :=
  match r with
  | none => e = .returned (.tuple #[.agg #[.int .i64 0, .int .i64 0], .agg #[.int .i64 0, .int .i64 0, .slice none 0 0], .bool false]) ∧ Below w.heap.size w w'
  | some (x, f) => ∃ sa sc, e = .returned (.tuple #[.agg #[.int .i64 x.1, .int .i64 x.2], .agg #[.int .i64 f.fn, .int .i64 f.pc, .slice sa f.sl.length sc], .bool true]) ∧ Rx w' 2 (.slice sa f.sl.length sc) f.sl.length (flt enI f.sl) ∧ f.sl.length ≤ sc ∧ sc ≤ maxLen ∧ Below w.heap.size w w'
theorem blk5 (w : World) (n : Nat) (o1 o2 o3 o4 o5 : Obj) : ((((((w.alloc o1).alloc o2).alloc o3).alloc o4).alloc o5).drewN n).heap[w.heap.size]? = some o1 ∧ ((((((w.alloc o1).alloc o2).alloc o3).alloc o4).alloc o5).drewN n).heap[w.heap.size + 1 + 1]? = some o3 ∧
    ((((((w.alloc o1).alloc o2).alloc o3).alloc o4).alloc o5).drewN n).heap[w.heap.size + 1 + 1 + 1]? = some o4 ∧ ((((((w.alloc o1).alloc o2).alloc o3).alloc o4).alloc o5).drewN n).heap[w.heap.size + 1 + 1 + 1 + 1]? = some o5 := by
  obtain ⟨b1, b2, b3⟩ := blk3 w o1 o2 o3
  have h4 := heap_alloc_new (((w.alloc o1).alloc o2).alloc o3) o4
  have h5 := heap_alloc_new ((((w.alloc o1).alloc o2).alloc o3).alloc o4) o5
  simp only [World.size_alloc] at h4 h5
  exact ⟨balloc o5 (balloc o4 b1), balloc o5 (balloc o4 b3), balloc o5 h4, h5⟩
end Go.Proofs.Ytadgiccfjppnfaa
