/-
  errors.As at the two types of faults: whole.
-/
import Derived.Test.YtlogmdldjmkkjaaGreatDoorAs
namespace Go.Proofs.YtlogmdldjmkkjaaGreatDoor
open Go.RowKit Go.Extern.Stop Go.Stop Go.Extern
set_option linter.unusedVariables false
set_option linter.unusedSimpArgs false
/-- The variable errors.errorType is laid. -/
def Laid (w : World) : Prop := w.cell? ⟨0, 0, none⟩ = some (.iface 257 (.agg #[.pointer (some ⟨2, 96, none⟩)]))
set_option maxHeartbeats 4000000 in
theorem asFault_any (k at' why : Int) (tb : Nat) (o0 o1 : Value) (w : World) (hg : Laid w) (h0 : w.cell? ⟨tb, 0, none⟩ = some o0) (h1 : w.cell? ⟨tb, 1, none⟩ = some o1) (f0 : w.frozen? ⟨tb, 0, none⟩ = false) (f1 : w.frozen? ⟨tb, 1, none⟩ = false) :
    Calls Tryz.prog 82 #[.iface 140 (.agg #[.int .i64 k, .iface 138 (.agg #[.int .i64 at', .int .i64 why])]), .iface 142 (.pointer (some ⟨tb, 0, none⟩))] w fun ev w' => ev = .returned (.bool true) ∧ Fr (fun k => k = tb) w w' ∧ w'.cell? ⟨tb, 0, none⟩ = some (.int .i64 at') ∧ w'.cell? ⟨tb, 1, none⟩ = some (.int .i64 why) := by
  have x46 := @run_callFunc_extern Tryz.prog 124 _ (fun args => ReflectliteValue.unpack (args.getD 0 (.tuple #[]))) Tryz.func124 (by kernel_rfl) (by kernel_rfl) (by kernel_rfl) (by kernel_rfl)
  have x47 := @run_callFunc_extern Tryz.prog 125 _ (ReflectliteValue.methodAny (ReflectliteValue.valueError "reflectlite.Value.Type" 0) (fun t _ _ _ => ReflectliteType.toType t)) Tryz.func125 (by kernel_rfl) (by kernel_rfl) (by kernel_rfl) (by kernel_rfl)
  have x48 := @run_callFunc_extern Tryz.prog 126 _ (ReflectliteValue.method (ReflectliteValue.valueError "reflectlite.Value.IsNil" 0) ReflectliteValue.isNil) Tryz.func126 (by kernel_rfl) (by kernel_rfl) (by kernel_rfl) (by kernel_rfl)
  have x83 := @run_callFunc_extern Tryz.prog 224 _ (ReflectliteType.abiMethod fun t => do pure (.int .u8 (← Rtype.kind t))) Tryz.func224 (by kernel_rfl) (by kernel_rfl) (by kernel_rfl) (by kernel_rfl)
  have x96 := @run_callFunc_extern Tryz.prog 237 _ (ReflectliteType.method ReflectliteType.elem) Tryz.func237 (by kernel_rfl) (by kernel_rfl) (by kernel_rfl) (by kernel_rfl)
  have x97 := @run_callFunc_extern Tryz.prog 238 _ (ReflectliteType.relation "Implements" ReflectliteType.implements_) Tryz.func238 (by kernel_rfl) (by kernel_rfl) (by kernel_rfl) (by kernel_rfl)
  have gl : 0 < w.heap.size := World.block_lt_of_cell? _ _ hg
  have tl : tb < w.heap.size := World.block_lt_of_cell? _ _ h0
  have b1 : Below w.heap.size w ((w.alloc (.cells #[.pointer (some ⟨tb, 0, none⟩)] 142)).alloc (.cells #[.pointer (some ⟨2, 142, none⟩), .pointer (some ⟨w.heap.size, 0, none⟩), .int .u64 150] 203)) := ((Below.refl _ w).alloc (Nat.le_refl _) _).alloc (by simp) _
  have hgW := (b1.cell (p := ⟨0, 0, none⟩) gl).trans hg
  have hnew := heap_alloc_new w (.cells #[.pointer (some ⟨tb, 0, none⟩)] 142)
  have hbl : ((w.alloc (.cells #[.pointer (some ⟨tb, 0, none⟩)] 142)).alloc (.cells #[.pointer (some ⟨2, 142, none⟩), .pointer (some ⟨w.heap.size, 0, none⟩), .int .u64 150] 203)).heap[w.heap.size]? = some (.cells #[.pointer (some ⟨tb, 0, none⟩)] 142) := (Below.heap_alloc _ _ _ (by simp)).trans hnew
  have ca : ((w.alloc (.cells #[.pointer (some ⟨tb, 0, none⟩)] 142)).alloc (.cells #[.pointer (some ⟨2, 142, none⟩), .pointer (some ⟨w.heap.size, 0, none⟩), .int .u64 150] 203)).cell? ⟨w.heap.size, 0, none⟩ = some (.pointer (some ⟨tb, 0, none⟩)) := by unfold World.cell?; simp only [hbl]; rfl
  have vo := Tryz.valueOf84 ⟨tb, 0, none⟩
  have ty := Tryz.type84
  have mK := Tryz.methodKind
  have kk := Tryz.kind84
  have ke := Tryz.kind80
  have nl := Tryz.isNil84 ⟨w.heap.size, 0, none⟩ ⟨tb, 0, none⟩ ((w.alloc (.cells #[.pointer (some ⟨tb, 0, none⟩)] 142)).alloc (.cells #[.pointer (some ⟨2, 142, none⟩), .pointer (some ⟨w.heap.size, 0, none⟩), .int .u64 150] 203)) ca
  have mE := Tryz.methodElem
  have el := Tryz.elem84
  have mI := Tryz.methodImplements
  have im := Tryz.implements80
  have HA := hide (as_fault k at' why tb ⟨w.heap.size, 0, none⟩ o0 o1 ((w.alloc (.cells #[.pointer (some ⟨tb, 0, none⟩)] 142)).alloc (.cells #[.pointer (some ⟨2, 142, none⟩), .pointer (some ⟨w.heap.size, 0, none⟩), .int .u64 150] 203)) ca ((b1.cell (p := ⟨tb, 0, none⟩) tl).trans h0) ((b1.cell (p := ⟨tb, 1, none⟩) tl).trans h1) ((World.frozen?_of_block (b1.block tb tl)).trans f0) ((World.frozen?_of_block (b1.block tb tl)).trans f1))
  have HB := hide b1
  clear b1 hbl hnew
  go_enter Tryz.func82, Tryz.ntmps82
  go_wp2_with fail
  refine (unhide HA).mono ?_
  rintro ev w' ⟨rfl, f, c0, c1⟩
  go_wp2_with fail
  go_ret
  exact ⟨rfl, (Fr.of_below (unhide HB)).trans f, c0, c1⟩
set_option maxHeartbeats 4000000 in
theorem asWithin_any (k at' why : Int) (tb : Nat) (o0 o1 : Value) (w : World) (hg : Laid w) (h0 : w.cell? ⟨tb, 0, none⟩ = some o0) (h1 : w.cell? ⟨tb, 1, none⟩ = some o1) (f0 : w.frozen? ⟨tb, 0, none⟩ = false) (f1 : w.frozen? ⟨tb, 1, none⟩ = false) :
    Calls Tryz.prog 82 #[.iface 140 (.agg #[.int .i64 k, .iface 138 (.agg #[.int .i64 at', .int .i64 why])]), .iface 143 (.pointer (some ⟨tb, 0, none⟩))] w fun ev w' => ev = .returned (.bool true) ∧ Fr (fun k => k = tb) w w' ∧ w'.cell? ⟨tb, 0, none⟩ = some (.int .i64 k) ∧ w'.cell? ⟨tb, 1, none⟩ = some ((.iface 138 (.agg #[.int .i64 at', .int .i64 why]))) := by
  have x46 := @run_callFunc_extern Tryz.prog 124 _ (fun args => ReflectliteValue.unpack (args.getD 0 (.tuple #[]))) Tryz.func124 (by kernel_rfl) (by kernel_rfl) (by kernel_rfl) (by kernel_rfl)
  have x47 := @run_callFunc_extern Tryz.prog 125 _ (ReflectliteValue.methodAny (ReflectliteValue.valueError "reflectlite.Value.Type" 0) (fun t _ _ _ => ReflectliteType.toType t)) Tryz.func125 (by kernel_rfl) (by kernel_rfl) (by kernel_rfl) (by kernel_rfl)
  have x48 := @run_callFunc_extern Tryz.prog 126 _ (ReflectliteValue.method (ReflectliteValue.valueError "reflectlite.Value.IsNil" 0) ReflectliteValue.isNil) Tryz.func126 (by kernel_rfl) (by kernel_rfl) (by kernel_rfl) (by kernel_rfl)
  have x83 := @run_callFunc_extern Tryz.prog 224 _ (ReflectliteType.abiMethod fun t => do pure (.int .u8 (← Rtype.kind t))) Tryz.func224 (by kernel_rfl) (by kernel_rfl) (by kernel_rfl) (by kernel_rfl)
  have x96 := @run_callFunc_extern Tryz.prog 237 _ (ReflectliteType.method ReflectliteType.elem) Tryz.func237 (by kernel_rfl) (by kernel_rfl) (by kernel_rfl) (by kernel_rfl)
  have x97 := @run_callFunc_extern Tryz.prog 238 _ (ReflectliteType.relation "Implements" ReflectliteType.implements_) Tryz.func238 (by kernel_rfl) (by kernel_rfl) (by kernel_rfl) (by kernel_rfl)
  have gl : 0 < w.heap.size := World.block_lt_of_cell? _ _ hg
  have tl : tb < w.heap.size := World.block_lt_of_cell? _ _ h0
  have b1 : Below w.heap.size w ((w.alloc (.cells #[.pointer (some ⟨tb, 0, none⟩)] 143)).alloc (.cells #[.pointer (some ⟨2, 143, none⟩), .pointer (some ⟨w.heap.size, 0, none⟩), .int .u64 150] 203)) := ((Below.refl _ w).alloc (Nat.le_refl _) _).alloc (by simp) _
  have hgW := (b1.cell (p := ⟨0, 0, none⟩) gl).trans hg
  have hnew := heap_alloc_new w (.cells #[.pointer (some ⟨tb, 0, none⟩)] 143)
  have hbl : ((w.alloc (.cells #[.pointer (some ⟨tb, 0, none⟩)] 143)).alloc (.cells #[.pointer (some ⟨2, 143, none⟩), .pointer (some ⟨w.heap.size, 0, none⟩), .int .u64 150] 203)).heap[w.heap.size]? = some (.cells #[.pointer (some ⟨tb, 0, none⟩)] 143) := (Below.heap_alloc _ _ _ (by simp)).trans hnew
  have ca : ((w.alloc (.cells #[.pointer (some ⟨tb, 0, none⟩)] 143)).alloc (.cells #[.pointer (some ⟨2, 143, none⟩), .pointer (some ⟨w.heap.size, 0, none⟩), .int .u64 150] 203)).cell? ⟨w.heap.size, 0, none⟩ = some (.pointer (some ⟨tb, 0, none⟩)) := by unfold World.cell?; simp only [hbl]; rfl
  have vo := Tryz.valueOf85 ⟨tb, 0, none⟩
  have ty := Tryz.type85
  have mK := Tryz.methodKind
  have kk := Tryz.kind85
  have ke := Tryz.kind82
  have nl := Tryz.isNil85 ⟨w.heap.size, 0, none⟩ ⟨tb, 0, none⟩ ((w.alloc (.cells #[.pointer (some ⟨tb, 0, none⟩)] 143)).alloc (.cells #[.pointer (some ⟨2, 143, none⟩), .pointer (some ⟨w.heap.size, 0, none⟩), .int .u64 150] 203)) ca
  have mE := Tryz.methodElem
  have el := Tryz.elem85
  have mI := Tryz.methodImplements
  have im := Tryz.implements82
  have HA := hide (as_within k at' why tb ⟨w.heap.size, 0, none⟩ o0 o1 ((w.alloc (.cells #[.pointer (some ⟨tb, 0, none⟩)] 143)).alloc (.cells #[.pointer (some ⟨2, 143, none⟩), .pointer (some ⟨w.heap.size, 0, none⟩), .int .u64 150] 203)) ca ((b1.cell (p := ⟨tb, 0, none⟩) tl).trans h0) ((b1.cell (p := ⟨tb, 1, none⟩) tl).trans h1) ((World.frozen?_of_block (b1.block tb tl)).trans f0) ((World.frozen?_of_block (b1.block tb tl)).trans f1))
  have HB := hide b1
  clear b1 hbl hnew
  go_enter Tryz.func82, Tryz.ntmps82
  go_wp2_with fail
  refine (unhide HA).mono ?_
  rintro ev w' ⟨rfl, f, c0, c1⟩
  go_wp2_with fail
  go_ret
  exact ⟨rfl, (Fr.of_below (unhide HB)).trans f, c0, c1⟩
end Go.Proofs.YtlogmdldjmkkjaaGreatDoor
