/-
  errors.As at the two types of faults: the walks.
-/
import Derived.Test.YtlogmdldjmkkjaaGreatDoorAsFacts
namespace Go.Proofs.YtlogmdldjmkkjaaGreatDoor
open Go.RowKit Go.Extern.Stop Go.Stop Go.Extern
set_option linter.unusedVariables false
set_option linter.unusedSimpArgs false
theorem Tryz.loadv80 (b : Nat) (x y : Value) (W : World) (hx : W.cell? ⟨b, 0, none⟩ = some x) (hy : W.cell? ⟨b, 1, none⟩ = some y) : (loadVar 138 ⟨b, 0, none⟩).run Tryz.prog W = .ok (.agg #[x, y]) W := by
  simp [loadVar, isAgg, underlying, Tryz.underlying138, Result.andThen, Tryz.size80, loadCells, loadCellsFrom, Addr.add, hx, hy]
theorem Tryz.storev80 (tb : Nat) (x y o0 o1 : Value) (hx1 : x.oneCell' = true) (hy1 : y.oneCell' = true) (W : World) (h0 : W.cell? ⟨tb, 0, none⟩ = some o0) (h1 : W.cell? ⟨tb, 1, none⟩ = some o1) (f0 : W.frozen? ⟨tb, 0, none⟩ = false) (f1 : W.frozen? ⟨tb, 1, none⟩ = false) :
    (storeVar 138 ⟨tb, 0, none⟩ (.agg #[x, y])).run Tryz.prog W = .ok () ((W.setCell ⟨tb, 0, none⟩ x).setCell ⟨tb, 1, none⟩ y) := by
  have e1 : (W.setCell ⟨tb, 0, none⟩ x).cell? ⟨tb, 1, none⟩ = some o1 := by rw [World.cell?_setCell_other _ _ _ _ (fun e => by simp at e)]; exact h1
  have e2 : (W.setCell ⟨tb, 0, none⟩ x).frozen? ⟨tb, 1, none⟩ = false := by rw [World.frozen?_setCell]; exact f1
  simp [storeVar, Tryz.size80, Result.andThen, Value.cells, storeCells, Addr.add]
  rw [run_store Tryz.prog W ⟨tb, 0, none⟩ x _ hx1]
  simp [h0, f0, Result.andThen]
  rw [run_store Tryz.prog _ ⟨tb, 1, none⟩ y _ hy1]
  simp [e1, e2]
theorem Tryz.set80 (tb b : Nat) (x y o0 o1 : Value) (hx1 : x.oneCell' = true) (hy1 : y.oneCell' = true) (W : World) (hx : W.cell? ⟨b, 0, none⟩ = some x) (hy : W.cell? ⟨b, 1, none⟩ = some y) (h0 : W.cell? ⟨tb, 0, none⟩ = some o0) (h1 : W.cell? ⟨tb, 1, none⟩ = some o1) (f0 : W.frozen? ⟨tb, 0, none⟩ = false) (f1 : W.frozen? ⟨tb, 1, none⟩ = false) :
    (ReflectliteValue.set #[.agg #[.pointer (some ⟨2, 138, none⟩), .pointer (some ⟨tb, 0, none⟩), .int .u64 409], .agg #[.pointer (some ⟨2, 138, none⟩), .pointer (some ⟨b, 0, none⟩), .int .u64 153]]).run Tryz.prog W
      = .ok (.tuple #[]) ((W.setCell ⟨tb, 0, none⟩ x).setCell ⟨tb, 1, none⟩ y) := by
  exact rl2 _ _ (Tryz.parts80a _ _) (Tryz.parts80 _ _) (by decide) (Tryz.loadv80 b x y W hx hy) (Tryz.direct80 _) (Tryz.storev80 tb x y o0 o1 hx1 hy1 W h0 h1 f0 f1)
theorem Tryz.loadv82 (b : Nat) (x y : Value) (W : World) (hx : W.cell? ⟨b, 0, none⟩ = some x) (hy : W.cell? ⟨b, 1, none⟩ = some y) : (loadVar 140 ⟨b, 0, none⟩).run Tryz.prog W = .ok (.agg #[x, y]) W := by
  simp [loadVar, isAgg, underlying, Tryz.underlying140, Result.andThen, Tryz.size82, loadCells, loadCellsFrom, Addr.add, hx, hy]
theorem Tryz.storev82 (tb : Nat) (x y o0 o1 : Value) (hx1 : x.oneCell' = true) (hy1 : y.oneCell' = true) (W : World) (h0 : W.cell? ⟨tb, 0, none⟩ = some o0) (h1 : W.cell? ⟨tb, 1, none⟩ = some o1) (f0 : W.frozen? ⟨tb, 0, none⟩ = false) (f1 : W.frozen? ⟨tb, 1, none⟩ = false) :
    (storeVar 140 ⟨tb, 0, none⟩ (.agg #[x, y])).run Tryz.prog W = .ok () ((W.setCell ⟨tb, 0, none⟩ x).setCell ⟨tb, 1, none⟩ y) := by
  have e1 : (W.setCell ⟨tb, 0, none⟩ x).cell? ⟨tb, 1, none⟩ = some o1 := by rw [World.cell?_setCell_other _ _ _ _ (fun e => by simp at e)]; exact h1
  have e2 : (W.setCell ⟨tb, 0, none⟩ x).frozen? ⟨tb, 1, none⟩ = false := by rw [World.frozen?_setCell]; exact f1
  simp [storeVar, Tryz.size82, Result.andThen, Value.cells, storeCells, Addr.add]
  rw [run_store Tryz.prog W ⟨tb, 0, none⟩ x _ hx1]
  simp [h0, f0, Result.andThen]
  rw [run_store Tryz.prog _ ⟨tb, 1, none⟩ y _ hy1]
  simp [e1, e2]
theorem Tryz.set82 (tb b : Nat) (x y o0 o1 : Value) (hx1 : x.oneCell' = true) (hy1 : y.oneCell' = true) (W : World) (hx : W.cell? ⟨b, 0, none⟩ = some x) (hy : W.cell? ⟨b, 1, none⟩ = some y) (h0 : W.cell? ⟨tb, 0, none⟩ = some o0) (h1 : W.cell? ⟨tb, 1, none⟩ = some o1) (f0 : W.frozen? ⟨tb, 0, none⟩ = false) (f1 : W.frozen? ⟨tb, 1, none⟩ = false) :
    (ReflectliteValue.set #[.agg #[.pointer (some ⟨2, 140, none⟩), .pointer (some ⟨tb, 0, none⟩), .int .u64 409], .agg #[.pointer (some ⟨2, 140, none⟩), .pointer (some ⟨b, 0, none⟩), .int .u64 153]]).run Tryz.prog W
      = .ok (.tuple #[]) ((W.setCell ⟨tb, 0, none⟩ x).setCell ⟨tb, 1, none⟩ y) := by
  exact rl2 _ _ (Tryz.parts82a _ _) (Tryz.parts82 _ _) (by decide) (Tryz.loadv82 b x y W hx hy) (Tryz.direct82 _) (Tryz.storev82 tb x y o0 o1 hx1 hy1 W h0 h1 f0 f1)
set_option maxHeartbeats 4000000 in
theorem as_fault (k at' why : Int) (tb : Nat) (a : Addr) (o0 o1 : Value) (w : World) (ha : w.cell? a = some (.pointer (some ⟨tb, 0, none⟩))) (h0 : w.cell? ⟨tb, 0, none⟩ = some o0) (h1 : w.cell? ⟨tb, 1, none⟩ = some o1) (f0 : w.frozen? ⟨tb, 0, none⟩ = false) (f1 : w.frozen? ⟨tb, 1, none⟩ = false) :
    Calls Tryz.prog 127 #[.iface 140 (.agg #[.int .i64 k, .iface 138 (.agg #[.int .i64 at', .int .i64 why])]), .iface 142 (.pointer (some ⟨tb, 0, none⟩)), .agg #[.pointer (some ⟨2, 142, none⟩), .pointer (some a), .int .u64 150], .iface 257 (.agg #[.pointer (some ⟨2, 138, none⟩)])] w fun ev w' => ev = .returned (.bool true) ∧ Fr (fun k => k = tb) w w' ∧ w'.cell? ⟨tb, 0, none⟩ = some (.int .i64 at') ∧ w'.cell? ⟨tb, 1, none⟩ = some (.int .i64 why) := by
  have x46 := @run_callFunc_extern Tryz.prog 124 _ (fun args => ReflectliteValue.unpack (args.getD 0 (.tuple #[]))) Tryz.func124 (by kernel_rfl) (by kernel_rfl) (by kernel_rfl) (by kernel_rfl)
  have x55 := @run_callFunc_extern Tryz.prog 166 _ ReflectliteType.typeOf Tryz.func166 (by kernel_rfl) (by kernel_rfl) (by kernel_rfl) (by kernel_rfl)
  have x94 := @run_callFunc_extern Tryz.prog 235 _ (ReflectliteType.relation "AssignableTo" ReflectliteType.assignableTo) Tryz.func235 (by kernel_rfl) (by kernel_rfl) (by kernel_rfl) (by kernel_rfl)
  have x56 := @run_callFunc_extern Tryz.prog 167 _ (ReflectliteValue.method (ReflectliteValue.valueError "reflectlite.Value.Elem" 0) ReflectliteValue.elem) Tryz.func167 (by kernel_rfl) (by kernel_rfl) (by kernel_rfl) (by kernel_rfl)
  have x57 := @run_callFunc_extern Tryz.prog 168 _ ReflectliteValue.set Tryz.func168 (by kernel_rfl) (by kernel_rfl) (by kernel_rfl) (by kernel_rfl)
  have t80 := Tryz.typeOf80
  have t82 := Tryz.typeOf82
  have mA := Tryz.methodAssignableTo
  have aa := Tryz.assignable8080
  have a82 := Tryz.assignable8280
  have nA := Tryz.noAs82
  have uW := Tryz.unw82
  have mU := Tryz.methodUnwrap
  have al : a.block < w.heap.size := World.block_lt_of_cell? _ _ ha
  have tl : tb < w.heap.size := World.block_lt_of_cell? _ _ h0
  have b1 : Below w.heap.size w ((w.alloc (.cells #[.pointer (some ⟨2, 142, none⟩), .pointer (some a), .int .u64 150] 203)).alloc (.cells #[.int .i64 k, .iface 138 (.agg #[.int .i64 at', .int .i64 why])] 140)) := ((Below.refl _ w).alloc (Nat.le_refl _) _).alloc (by simp) _
  have b2 : Below w.heap.size w (((w.alloc (.cells #[.pointer (some ⟨2, 142, none⟩), .pointer (some a), .int .u64 150] 203)).alloc (.cells #[.int .i64 k, .iface 138 (.agg #[.int .i64 at', .int .i64 why])] 140)).alloc (.cells #[.int .i64 at', .int .i64 why] 138)) := b1.alloc (by simp; omega) _
  have el := Tryz.elemV84 a ⟨tb, 0, none⟩ ((w.alloc (.cells #[.pointer (some ⟨2, 142, none⟩), .pointer (some a), .int .u64 150] 203)).alloc (.cells #[.int .i64 k, .iface 138 (.agg #[.int .i64 at', .int .i64 why])] 140)) ((b1.cell al).trans ha)
  have vo := Tryz.valueOf80 (.int .i64 at') (.int .i64 why) rfl rfl
  have hnew := heap_alloc_new ((w.alloc (.cells #[.pointer (some ⟨2, 142, none⟩), .pointer (some a), .int .u64 150] 203)).alloc (.cells #[.int .i64 k, .iface 138 (.agg #[.int .i64 at', .int .i64 why])] 140)) (.cells #[.int .i64 at', .int .i64 why] 138)
  simp only [World.size_alloc] at hnew
  have g0 := (b2.cell (p := ⟨tb, 0, none⟩) tl).trans h0
  have g1 := (b2.cell (p := ⟨tb, 1, none⟩) tl).trans h1
  have k0 : (((w.alloc (.cells #[.pointer (some ⟨2, 142, none⟩), .pointer (some a), .int .u64 150] 203)).alloc (.cells #[.int .i64 k, .iface 138 (.agg #[.int .i64 at', .int .i64 why])] 140)).alloc (.cells #[.int .i64 at', .int .i64 why] 138)).frozen? ⟨tb, 0, none⟩ = false := (World.frozen?_of_block (b2.block tb tl)).trans f0
  have k1 : (((w.alloc (.cells #[.pointer (some ⟨2, 142, none⟩), .pointer (some a), .int .u64 150] 203)).alloc (.cells #[.int .i64 k, .iface 138 (.agg #[.int .i64 at', .int .i64 why])] 140)).alloc (.cells #[.int .i64 at', .int .i64 why] 138)).frozen? ⟨tb, 1, none⟩ = false := (World.frozen?_of_block (b2.block tb tl)).trans f1
  have st := Tryz.set80 tb (w.heap.size + 1 + 1) (.int .i64 at') (.int .i64 why) o0 o1 rfl rfl (((w.alloc (.cells #[.pointer (some ⟨2, 142, none⟩), .pointer (some a), .int .u64 150] 203)).alloc (.cells #[.int .i64 k, .iface 138 (.agg #[.int .i64 at', .int .i64 why])] 140)).alloc (.cells #[.int .i64 at', .int .i64 why] 138)) (by unfold World.cell?; simp only [hnew]; rfl) (by unfold World.cell?; simp only [hnew]; rfl) g0 g1 k0 k1
  have HB := b2
  go_enter Tryz.func127, Tryz.ntmps127
  go_wp2
  refine wp_loop_rounds 2 ?_
  rw [rounds_succ]
  go_wp2
  rw [rounds_succ]
  go_wp2
  go_ret
  refine ⟨rfl, ((Fr.of_below (S := fun k => k = tb) HB).setCell ⟨tb, 0, none⟩ (.inr rfl) _).setCell ⟨tb, 1, none⟩ (.inr rfl) _, ?_, ?_⟩
  · rw [World.cell?_setCell_other _ _ _ _ (fun e => by simp at e)]
    exact World.cell?_setCell_same _ _ _ g0
  · exact World.cell?_setCell_same _ _ _ (u := o1) (by rw [World.cell?_setCell_other _ _ _ _ (fun e => by simp at e)]; exact g1)
set_option maxHeartbeats 4000000 in
theorem as_within (k at' why : Int) (tb : Nat) (a : Addr) (o0 o1 : Value) (w : World) (ha : w.cell? a = some (.pointer (some ⟨tb, 0, none⟩))) (h0 : w.cell? ⟨tb, 0, none⟩ = some o0) (h1 : w.cell? ⟨tb, 1, none⟩ = some o1) (f0 : w.frozen? ⟨tb, 0, none⟩ = false) (f1 : w.frozen? ⟨tb, 1, none⟩ = false) :
    Calls Tryz.prog 127 #[.iface 140 (.agg #[.int .i64 k, .iface 138 (.agg #[.int .i64 at', .int .i64 why])]), .iface 143 (.pointer (some ⟨tb, 0, none⟩)), .agg #[.pointer (some ⟨2, 143, none⟩), .pointer (some a), .int .u64 150], .iface 257 (.agg #[.pointer (some ⟨2, 140, none⟩)])] w fun ev w' => ev = .returned (.bool true) ∧ Fr (fun k => k = tb) w w' ∧ w'.cell? ⟨tb, 0, none⟩ = some (.int .i64 k) ∧ w'.cell? ⟨tb, 1, none⟩ = some ((.iface 138 (.agg #[.int .i64 at', .int .i64 why]))) := by
  have x46 := @run_callFunc_extern Tryz.prog 124 _ (fun args => ReflectliteValue.unpack (args.getD 0 (.tuple #[]))) Tryz.func124 (by kernel_rfl) (by kernel_rfl) (by kernel_rfl) (by kernel_rfl)
  have x55 := @run_callFunc_extern Tryz.prog 166 _ ReflectliteType.typeOf Tryz.func166 (by kernel_rfl) (by kernel_rfl) (by kernel_rfl) (by kernel_rfl)
  have x94 := @run_callFunc_extern Tryz.prog 235 _ (ReflectliteType.relation "AssignableTo" ReflectliteType.assignableTo) Tryz.func235 (by kernel_rfl) (by kernel_rfl) (by kernel_rfl) (by kernel_rfl)
  have x56 := @run_callFunc_extern Tryz.prog 167 _ (ReflectliteValue.method (ReflectliteValue.valueError "reflectlite.Value.Elem" 0) ReflectliteValue.elem) Tryz.func167 (by kernel_rfl) (by kernel_rfl) (by kernel_rfl) (by kernel_rfl)
  have x57 := @run_callFunc_extern Tryz.prog 168 _ ReflectliteValue.set Tryz.func168 (by kernel_rfl) (by kernel_rfl) (by kernel_rfl) (by kernel_rfl)
  have t80 := Tryz.typeOf80
  have t82 := Tryz.typeOf82
  have mA := Tryz.methodAssignableTo
  have aa := Tryz.assignable8282
  have a82 := Tryz.assignable8280
  have nA := Tryz.noAs82
  have uW := Tryz.unw82
  have mU := Tryz.methodUnwrap
  have al : a.block < w.heap.size := World.block_lt_of_cell? _ _ ha
  have tl : tb < w.heap.size := World.block_lt_of_cell? _ _ h0
  have b1 : Below w.heap.size w (w.alloc (.cells #[.pointer (some ⟨2, 143, none⟩), .pointer (some a), .int .u64 150] 203)) := (Below.refl _ w).alloc (Nat.le_refl _) _
  have b2 : Below w.heap.size w ((w.alloc (.cells #[.pointer (some ⟨2, 143, none⟩), .pointer (some a), .int .u64 150] 203)).alloc (.cells #[.int .i64 k, (.iface 138 (.agg #[.int .i64 at', .int .i64 why]))] 140)) := b1.alloc (by simp) _
  have el := Tryz.elemV85 a ⟨tb, 0, none⟩ (w.alloc (.cells #[.pointer (some ⟨2, 143, none⟩), .pointer (some a), .int .u64 150] 203)) ((b1.cell al).trans ha)
  have vo := Tryz.valueOf82 (.int .i64 k) ((.iface 138 (.agg #[.int .i64 at', .int .i64 why]))) rfl rfl
  have hnew := heap_alloc_new (w.alloc (.cells #[.pointer (some ⟨2, 143, none⟩), .pointer (some a), .int .u64 150] 203)) (.cells #[.int .i64 k, (.iface 138 (.agg #[.int .i64 at', .int .i64 why]))] 140)
  simp only [World.size_alloc] at hnew
  have g0 := (b2.cell (p := ⟨tb, 0, none⟩) tl).trans h0
  have g1 := (b2.cell (p := ⟨tb, 1, none⟩) tl).trans h1
  have k0 : ((w.alloc (.cells #[.pointer (some ⟨2, 143, none⟩), .pointer (some a), .int .u64 150] 203)).alloc (.cells #[.int .i64 k, (.iface 138 (.agg #[.int .i64 at', .int .i64 why]))] 140)).frozen? ⟨tb, 0, none⟩ = false := (World.frozen?_of_block (b2.block tb tl)).trans f0
  have k1 : ((w.alloc (.cells #[.pointer (some ⟨2, 143, none⟩), .pointer (some a), .int .u64 150] 203)).alloc (.cells #[.int .i64 k, (.iface 138 (.agg #[.int .i64 at', .int .i64 why]))] 140)).frozen? ⟨tb, 1, none⟩ = false := (World.frozen?_of_block (b2.block tb tl)).trans f1
  have st := Tryz.set82 tb (w.heap.size + 1) (.int .i64 k) ((.iface 138 (.agg #[.int .i64 at', .int .i64 why]))) o0 o1 rfl rfl ((w.alloc (.cells #[.pointer (some ⟨2, 143, none⟩), .pointer (some a), .int .u64 150] 203)).alloc (.cells #[.int .i64 k, (.iface 138 (.agg #[.int .i64 at', .int .i64 why]))] 140)) (by unfold World.cell?; simp only [hnew]; rfl) (by unfold World.cell?; simp only [hnew]; rfl) g0 g1 k0 k1
  have HB := b2
  go_enter Tryz.func127, Tryz.ntmps127
  go_wp2
  refine wp_loop_rounds 1 ?_
  rw [rounds_succ]
  go_wp2


  go_ret
  have c1 : ((w.setCell ⟨tb, 0, none⟩ (.int .i64 k)).setCell ⟨tb, 1, none⟩ ((.iface 138 (.agg #[.int .i64 at', .int .i64 why])))).cell? ⟨tb, 1, none⟩ = some ((.iface 138 (.agg #[.int .i64 at', .int .i64 why]))) := World.cell?_setCell_same _ _ _ (u := o1) (by rw [World.cell?_setCell_other _ _ _ _ (fun e => by simp at e)]; exact h1)
  have c0 : ((w.setCell ⟨tb, 0, none⟩ (.int .i64 k)).setCell ⟨tb, 1, none⟩ ((.iface 138 (.agg #[.int .i64 at', .int .i64 why])))).cell? ⟨tb, 0, none⟩ = some (.int .i64 k) := by
    rw [World.cell?_setCell_other _ _ _ _ (fun e => by simp at e)]
    exact World.cell?_setCell_same _ _ _ h0
  have tl5 : tb < ((w.setCell ⟨tb, 0, none⟩ (.int .i64 k)).setCell ⟨tb, 1, none⟩ ((.iface 138 (.agg #[.int .i64 at', .int .i64 why])))).heap.size := World.block_lt_of_cell? _ _ c0
  have ff : Fr (fun k => k = tb) w ((w.setCell ⟨tb, 0, none⟩ (.int .i64 k)).setCell ⟨tb, 1, none⟩ ((.iface 138 (.agg #[.int .i64 at', .int .i64 why])))) := ((Fr.refl (fun k => k = tb) w).setCell ⟨tb, 0, none⟩ (.inr rfl) _).setCell ⟨tb, 1, none⟩ (.inr rfl) _
  exact ⟨rfl, ((ff.alloc _).alloc _), (World.cell?_of_block ((((Below.refl _ _).alloc (by simp) _).alloc (by simp) _).block tb tl5)).trans c0, (World.cell?_of_block ((((Below.refl _ _).alloc (by simp) _).alloc (by simp) _).block tb tl5)).trans c1⟩
end Go.Proofs.YtlogmdldjmkkjaaGreatDoor
