/-
  errors.As at the two types of faults: whole.
-/
import Derived.Test.YtpfogphpeegfdaaGreatDoorPRow
import Derived.LaidEql
import Derived.Stop.Asserts
import Derived.RowKitTokens
namespace Go.Proofs.YtpfogphpeegfdaaGreatDoor
open Go.RowKit Go.Extern.Stop Go.Stop Go.Extern
set_option linter.unusedVariables false

theorem as_nil (t : Value) (w : World) : Calls Tryz.prog 60 #[.nilIface, t] w fun e w' => e = .returned (.bool false) ∧ w' = w := by
  go_enter Tryz.func60, Tryz.ntmps60
  go_wp2
  go_ret
  exact ⟨rfl, rfl⟩
/-- A method of a value whose parts are known. -/
theorem rl1 (z : Sem Value) (f : TypeId → Addr → Nat → Nat → Sem Value) (v : Value) {P : Program} {W : World} {t : TypeId} {a : Addr} {fl : Nat} (h : (ReflectliteValue.parts v).run P W = .ok (some (t, a, fl)) W) : (ReflectliteValue.method z f #[v]).run P W = (f t a fl (fl % 32)).run P W := by
  change (Bind.bind (ReflectliteValue.parts v) _ : Sem Value).run P W = _
  rw [Sem.run_bind, h]
  rfl
/-- Set, where both values' parts are known, and the one can be laid into the other. -/
theorem rl2 (v x : Value) {P : Program} {W W' : World} {dst src : TypeId} {a b : Addr} {fl g : Nat} {val : Value} (h1 : (ReflectliteValue.parts v).run P W = .ok (some (dst, a, fl)) W) (h2 : (ReflectliteValue.parts x).run P W = .ok (some (src, b, g)) W) (hf : (fl / ReflectliteValue.flagAddr % 2 == 0) = false)
    (h3 : (loadVar src b).run P W = .ok val W) (h4 : (Rtype.directlyAssignable dst src).run P W = .ok true W) (h5 : (storeVar dst a val).run P W = .ok () W') : (ReflectliteValue.set #[v, x]).run P W = .ok (.tuple #[]) W' := by
  change (Bind.bind (ReflectliteValue.parts v) _ : Sem Value).run P W = _
  rw [Sem.run_bind, h1]
  change (Bind.bind (ReflectliteValue.parts x) _ : Sem Value).run P W = _
  rw [Sem.run_bind, h2]
  simp [Result.andThen, hf, h3, h4, h5]
theorem Tryz.methodKind (h : Value) (w : World) : (Go.method 256 204 (.agg #[h]) "Kind").run Tryz.prog w = .ok (155, h) w := by kernel_rfl
theorem Tryz.methodElem (h : Value) (w : World) : (Go.method 256 204 (.agg #[h]) "Elem").run Tryz.prog w = .ok (168, .agg #[h]) w := by kernel_rfl
theorem Tryz.methodImplements (h : Value) (w : World) : (Go.method 256 204 (.agg #[h]) "Implements").run Tryz.prog w = .ok (169, .agg #[h]) w := by kernel_rfl
theorem Tryz.methodAssignableTo (h : Value) (w : World) : (Go.method 256 204 (.agg #[h]) "AssignableTo").run Tryz.prog w = .ok (166, .agg #[h]) w := by kernel_rfl
theorem Tryz.kind80 (w : World) : ((ReflectliteType.abiMethod fun t => (fun a : Nat => Value.int IntKind.u8 (a : Int)) <$> Rtype.kind t) #[.pointer (some ⟨1, 115, none⟩)]).run Tryz.prog w = .ok (.int .u8 25) w := by kernel_rfl
theorem Tryz.kind82 (w : World) : ((ReflectliteType.abiMethod fun t => (fun a : Nat => Value.int IntKind.u8 (a : Int)) <$> Rtype.kind t) #[.pointer (some ⟨1, 117, none⟩)]).run Tryz.prog w = .ok (.int .u8 25) w := by kernel_rfl
theorem Tryz.kind84 (w : World) : ((ReflectliteType.abiMethod fun t => (fun a : Nat => Value.int IntKind.u8 (a : Int)) <$> Rtype.kind t) #[.pointer (some ⟨1, 119, none⟩)]).run Tryz.prog w = .ok (.int .u8 22) w := by kernel_rfl
theorem Tryz.kind85 (w : World) : ((ReflectliteType.abiMethod fun t => (fun a : Nat => Value.int IntKind.u8 (a : Int)) <$> Rtype.kind t) #[.pointer (some ⟨1, 120, none⟩)]).run Tryz.prog w = .ok (.int .u8 22) w := by kernel_rfl
theorem Tryz.valueOf84 (t : Addr) (w : World) : (ReflectliteValue.unpack (.iface 119 (.pointer (some t)))).run Tryz.prog w
    = .ok (.agg #[.pointer (some ⟨1, 119, none⟩), .pointer (some ⟨w.heap.size, 0, none⟩), .int .u64 150]) (w.alloc (.cells #[.pointer (some t)] 119)) := by kernel_rfl
theorem Tryz.type84 (a : Addr) (w : World) : (ReflectliteValue.methodAny (ReflectliteValue.valueError "reflectlite.Value.Type" 0) (fun t _ _ _ => ReflectliteType.toType t) #[.agg #[.pointer (some ⟨1, 119, none⟩), .pointer (some a), .int .u64 150]]).run Tryz.prog w
    = .ok (.iface 204 (.agg #[.pointer (some ⟨1, 119, none⟩)])) w := by kernel_rfl
theorem Tryz.parts84 (a : Addr) (w : World) : (ReflectliteValue.parts (.agg #[.pointer (some ⟨1, 119, none⟩), .pointer (some a), .int .u64 150])).run Tryz.prog w = .ok (some (119, a, 150)) w := by kernel_rfl
theorem Tryz.isNil84 (a p : Addr) (W : World) (ha : W.cell? a = some (.pointer (some p))) :
    (ReflectliteValue.method (ReflectliteValue.valueError "reflectlite.Value.IsNil" 0) ReflectliteValue.isNil #[.agg #[.pointer (some ⟨1, 119, none⟩), .pointer (some a), .int .u64 150]]).run Tryz.prog W = .ok (.bool false) W := by
  rw [rl1 _ _ _ (Tryz.parts84 _ _)]
  simp [ReflectliteValue.isNil, loadVar, isAgg, underlying, Tryz.underlying119, ha, Result.andThen]
theorem Tryz.elem84 (w : World) : (ReflectliteType.method ReflectliteType.elem #[.agg #[.pointer (some ⟨1, 119, none⟩)]]).run Tryz.prog w = .ok (.iface 204 (.agg #[.pointer (some ⟨1, 115, none⟩)])) w := by kernel_rfl
theorem Tryz.implements80 (w : World) : (ReflectliteType.relation "Implements" ReflectliteType.implements_ #[.agg #[.pointer (some ⟨1, 115, none⟩)], .iface 204 (.agg #[.pointer (some ⟨1, 81, none⟩)])]).run Tryz.prog w = .ok (.bool true) w := by kernel_rfl
theorem Tryz.typeOf80 (v : Value) (w : World) : (ReflectliteType.typeOf #[.iface 115 v]).run Tryz.prog w = .ok (.iface 204 (.agg #[.pointer (some ⟨1, 115, none⟩)])) w := by kernel_rfl
theorem Tryz.elemOf84 (w : World) : (Rtype.elem? 119).run Tryz.prog w = .ok (some 115) w := by kernel_rfl
theorem Tryz.mk80 (p : Addr) (w : World) : (ReflectliteValue.mk 115 p ReflectliteValue.flagAddr).run Tryz.prog w = .ok (.agg #[.pointer (some ⟨1, 115, none⟩), .pointer (some p), .int .u64 409]) w := by kernel_rfl
theorem Tryz.elemV84 (a p : Addr) (W : World) (ha : W.cell? a = some (.pointer (some p))) :
    (ReflectliteValue.method (ReflectliteValue.valueError "reflectlite.Value.Elem" 0) ReflectliteValue.elem #[.agg #[.pointer (some ⟨1, 119, none⟩), .pointer (some a), .int .u64 150]]).run Tryz.prog W
      = .ok (.agg #[.pointer (some ⟨1, 115, none⟩), .pointer (some p), .int .u64 409]) W := by
  rw [rl1 _ _ _ (Tryz.parts84 _ _)]
  simp [ReflectliteValue.elem, loadVar, isAgg, underlying, Tryz.underlying119, ha, Result.andThen, Tryz.elemOf84, Tryz.mk80]
theorem Tryz.parts80a (a : Addr) (w : World) : (ReflectliteValue.parts (.agg #[.pointer (some ⟨1, 115, none⟩), .pointer (some a), .int .u64 409])).run Tryz.prog w = .ok (some (115, a, 409)) w := by kernel_rfl
theorem Tryz.parts80 (a : Addr) (w : World) : (ReflectliteValue.parts (.agg #[.pointer (some ⟨1, 115, none⟩), .pointer (some a), .int .u64 153])).run Tryz.prog w = .ok (some (115, a, 153)) w := by kernel_rfl
theorem Tryz.direct80 (w : World) : (Rtype.directlyAssignable 115 115).run Tryz.prog w = .ok true w := by kernel_rfl
theorem Tryz.size80 (w : World) : (sizeOf 115).run Tryz.prog w = .ok 2 w := by kernel_rfl
theorem Tryz.valueOf80 (u v : Value) (hu : u.cells = #[u]) (hv : v.cells = #[v]) (w : World) : (ReflectliteValue.unpack (.iface 115 (.agg #[u, v]))).run Tryz.prog w
    = .ok (.agg #[.pointer (some ⟨1, 115, none⟩), .pointer (some ⟨w.heap.size, 0, none⟩), .int .u64 153]) (w.alloc (.cells #[u, v] 115)) := by kernel_rfl
theorem Tryz.valueOf85 (t : Addr) (w : World) : (ReflectliteValue.unpack (.iface 120 (.pointer (some t)))).run Tryz.prog w
    = .ok (.agg #[.pointer (some ⟨1, 120, none⟩), .pointer (some ⟨w.heap.size, 0, none⟩), .int .u64 150]) (w.alloc (.cells #[.pointer (some t)] 120)) := by kernel_rfl
theorem Tryz.type85 (a : Addr) (w : World) : (ReflectliteValue.methodAny (ReflectliteValue.valueError "reflectlite.Value.Type" 0) (fun t _ _ _ => ReflectliteType.toType t) #[.agg #[.pointer (some ⟨1, 120, none⟩), .pointer (some a), .int .u64 150]]).run Tryz.prog w
    = .ok (.iface 204 (.agg #[.pointer (some ⟨1, 120, none⟩)])) w := by kernel_rfl
theorem Tryz.parts85 (a : Addr) (w : World) : (ReflectliteValue.parts (.agg #[.pointer (some ⟨1, 120, none⟩), .pointer (some a), .int .u64 150])).run Tryz.prog w = .ok (some (120, a, 150)) w := by kernel_rfl
theorem Tryz.isNil85 (a p : Addr) (W : World) (ha : W.cell? a = some (.pointer (some p))) :
    (ReflectliteValue.method (ReflectliteValue.valueError "reflectlite.Value.IsNil" 0) ReflectliteValue.isNil #[.agg #[.pointer (some ⟨1, 120, none⟩), .pointer (some a), .int .u64 150]]).run Tryz.prog W = .ok (.bool false) W := by
  rw [rl1 _ _ _ (Tryz.parts85 _ _)]
  simp [ReflectliteValue.isNil, loadVar, isAgg, underlying, Tryz.underlying120, ha, Result.andThen]
theorem Tryz.elem85 (w : World) : (ReflectliteType.method ReflectliteType.elem #[.agg #[.pointer (some ⟨1, 120, none⟩)]]).run Tryz.prog w = .ok (.iface 204 (.agg #[.pointer (some ⟨1, 117, none⟩)])) w := by kernel_rfl
theorem Tryz.implements82 (w : World) : (ReflectliteType.relation "Implements" ReflectliteType.implements_ #[.agg #[.pointer (some ⟨1, 117, none⟩)], .iface 204 (.agg #[.pointer (some ⟨1, 81, none⟩)])]).run Tryz.prog w = .ok (.bool true) w := by kernel_rfl
theorem Tryz.typeOf82 (v : Value) (w : World) : (ReflectliteType.typeOf #[.iface 117 v]).run Tryz.prog w = .ok (.iface 204 (.agg #[.pointer (some ⟨1, 117, none⟩)])) w := by kernel_rfl
theorem Tryz.elemOf85 (w : World) : (Rtype.elem? 120).run Tryz.prog w = .ok (some 117) w := by kernel_rfl
theorem Tryz.mk82 (p : Addr) (w : World) : (ReflectliteValue.mk 117 p ReflectliteValue.flagAddr).run Tryz.prog w = .ok (.agg #[.pointer (some ⟨1, 117, none⟩), .pointer (some p), .int .u64 409]) w := by kernel_rfl
theorem Tryz.elemV85 (a p : Addr) (W : World) (ha : W.cell? a = some (.pointer (some p))) :
    (ReflectliteValue.method (ReflectliteValue.valueError "reflectlite.Value.Elem" 0) ReflectliteValue.elem #[.agg #[.pointer (some ⟨1, 120, none⟩), .pointer (some a), .int .u64 150]]).run Tryz.prog W
      = .ok (.agg #[.pointer (some ⟨1, 117, none⟩), .pointer (some p), .int .u64 409]) W := by
  rw [rl1 _ _ _ (Tryz.parts85 _ _)]
  simp [ReflectliteValue.elem, loadVar, isAgg, underlying, Tryz.underlying120, ha, Result.andThen, Tryz.elemOf85, Tryz.mk82]
theorem Tryz.parts82a (a : Addr) (w : World) : (ReflectliteValue.parts (.agg #[.pointer (some ⟨1, 117, none⟩), .pointer (some a), .int .u64 409])).run Tryz.prog w = .ok (some (117, a, 409)) w := by kernel_rfl
theorem Tryz.parts82 (a : Addr) (w : World) : (ReflectliteValue.parts (.agg #[.pointer (some ⟨1, 117, none⟩), .pointer (some a), .int .u64 153])).run Tryz.prog w = .ok (some (117, a, 153)) w := by kernel_rfl
theorem Tryz.direct82 (w : World) : (Rtype.directlyAssignable 117 117).run Tryz.prog w = .ok true w := by kernel_rfl
theorem Tryz.size82 (w : World) : (sizeOf 117).run Tryz.prog w = .ok 2 w := by kernel_rfl
theorem Tryz.valueOf82 (u v : Value) (hu : u.cells = #[u]) (hv : v.cells = #[v]) (w : World) : (ReflectliteValue.unpack (.iface 117 (.agg #[u, v]))).run Tryz.prog w
    = .ok (.agg #[.pointer (some ⟨1, 117, none⟩), .pointer (some ⟨w.heap.size, 0, none⟩), .int .u64 153]) (w.alloc (.cells #[u, v] 117)) := by kernel_rfl
theorem Tryz.assignable8080 (w : World) : (ReflectliteType.relation "AssignableTo" ReflectliteType.assignableTo #[.agg #[.pointer (some ⟨1, 115, none⟩)], .iface 204 (.agg #[.pointer (some ⟨1, 115, none⟩)])]).run Tryz.prog w = .ok (.bool true) w := by kernel_rfl
theorem Tryz.assignable8082 (w : World) : (ReflectliteType.relation "AssignableTo" ReflectliteType.assignableTo #[.agg #[.pointer (some ⟨1, 115, none⟩)], .iface 204 (.agg #[.pointer (some ⟨1, 117, none⟩)])]).run Tryz.prog w = .ok (.bool false) w := by kernel_rfl
theorem Tryz.assignable8280 (w : World) : (ReflectliteType.relation "AssignableTo" ReflectliteType.assignableTo #[.agg #[.pointer (some ⟨1, 117, none⟩)], .iface 204 (.agg #[.pointer (some ⟨1, 115, none⟩)])]).run Tryz.prog w = .ok (.bool false) w := by kernel_rfl
theorem Tryz.assignable8282 (w : World) : (ReflectliteType.relation "AssignableTo" ReflectliteType.assignableTo #[.agg #[.pointer (some ⟨1, 117, none⟩)], .iface 204 (.agg #[.pointer (some ⟨1, 117, none⟩)])]).run Tryz.prog w = .ok (.bool true) w := by kernel_rfl
theorem Tryz.noAs82 (v : Value) (xT : TypeId) (w : World) : (Instr.typeAssert (.iface 117 v) xT 209 true).run Tryz.prog w = .ok (.tuple #[.nilIface, .bool false]) w := run_typeAssert_lacksB Tryz.underlying209 (by kernel_rfl) (by kernel_rfl) v xT w
theorem Tryz.unw82 (v : Value) (xT : TypeId) (w : World) : (Instr.typeAssert (.iface 117 v) xT 212 true).run Tryz.prog w = .ok (.tuple #[.iface 117 v, .bool true]) w := run_typeAssert_hasB Tryz.underlying212 (by kernel_rfl) v xT w
theorem Tryz.methodUnwrap (v : Value) (w : World) : (Go.method 256 117 v "Unwrap").run Tryz.prog w = .ok (161, v) w := by kernel_rfl

set_option linter.unusedVariables false
set_option linter.unusedSimpArgs false
theorem Tryz.loadv80 (b : Nat) (x y : Value) (W : World) (hx : W.cell? ⟨b, 0, none⟩ = some x) (hy : W.cell? ⟨b, 1, none⟩ = some y) : (loadVar 115 ⟨b, 0, none⟩).run Tryz.prog W = .ok (.agg #[x, y]) W := by
  simp [loadVar, isAgg, underlying, Tryz.underlying115, Result.andThen, Tryz.size80, loadCells, loadCellsFrom, Addr.add, hx, hy]
theorem Tryz.storev80 (tb : Nat) (x y o0 o1 : Value) (hx1 : x.oneCell' = true) (hy1 : y.oneCell' = true) (W : World) (h0 : W.cell? ⟨tb, 0, none⟩ = some o0) (h1 : W.cell? ⟨tb, 1, none⟩ = some o1) (f0 : W.frozen? ⟨tb, 0, none⟩ = false) (f1 : W.frozen? ⟨tb, 1, none⟩ = false) :
    (storeVar 115 ⟨tb, 0, none⟩ (.agg #[x, y])).run Tryz.prog W = .ok () ((W.setCell ⟨tb, 0, none⟩ x).setCell ⟨tb, 1, none⟩ y) := by
  have e1 : (W.setCell ⟨tb, 0, none⟩ x).cell? ⟨tb, 1, none⟩ = some o1 := by rw [World.cell?_setCell_other _ _ _ _ (fun e => by simp at e)]; exact h1
  have e2 : (W.setCell ⟨tb, 0, none⟩ x).frozen? ⟨tb, 1, none⟩ = false := by rw [World.frozen?_setCell]; exact f1
  simp [storeVar, Tryz.size80, Result.andThen, Value.cells, storeCells, Addr.add]
  rw [run_store Tryz.prog W ⟨tb, 0, none⟩ x _ hx1]
  simp [h0, f0, Result.andThen]
  rw [run_store Tryz.prog _ ⟨tb, 1, none⟩ y _ hy1]
  simp [e1, e2]
theorem Tryz.set80 (tb b : Nat) (x y o0 o1 : Value) (hx1 : x.oneCell' = true) (hy1 : y.oneCell' = true) (W : World) (hx : W.cell? ⟨b, 0, none⟩ = some x) (hy : W.cell? ⟨b, 1, none⟩ = some y) (h0 : W.cell? ⟨tb, 0, none⟩ = some o0) (h1 : W.cell? ⟨tb, 1, none⟩ = some o1) (f0 : W.frozen? ⟨tb, 0, none⟩ = false) (f1 : W.frozen? ⟨tb, 1, none⟩ = false) :
    (ReflectliteValue.set #[.agg #[.pointer (some ⟨1, 115, none⟩), .pointer (some ⟨tb, 0, none⟩), .int .u64 409], .agg #[.pointer (some ⟨1, 115, none⟩), .pointer (some ⟨b, 0, none⟩), .int .u64 153]]).run Tryz.prog W
      = .ok (.tuple #[]) ((W.setCell ⟨tb, 0, none⟩ x).setCell ⟨tb, 1, none⟩ y) := by
  exact rl2 _ _ (Tryz.parts80a _ _) (Tryz.parts80 _ _) (by decide) (Tryz.loadv80 b x y W hx hy) (Tryz.direct80 _) (Tryz.storev80 tb x y o0 o1 hx1 hy1 W h0 h1 f0 f1)
theorem Tryz.loadv82 (b : Nat) (x y : Value) (W : World) (hx : W.cell? ⟨b, 0, none⟩ = some x) (hy : W.cell? ⟨b, 1, none⟩ = some y) : (loadVar 117 ⟨b, 0, none⟩).run Tryz.prog W = .ok (.agg #[x, y]) W := by
  simp [loadVar, isAgg, underlying, Tryz.underlying117, Result.andThen, Tryz.size82, loadCells, loadCellsFrom, Addr.add, hx, hy]
theorem Tryz.storev82 (tb : Nat) (x y o0 o1 : Value) (hx1 : x.oneCell' = true) (hy1 : y.oneCell' = true) (W : World) (h0 : W.cell? ⟨tb, 0, none⟩ = some o0) (h1 : W.cell? ⟨tb, 1, none⟩ = some o1) (f0 : W.frozen? ⟨tb, 0, none⟩ = false) (f1 : W.frozen? ⟨tb, 1, none⟩ = false) :
    (storeVar 117 ⟨tb, 0, none⟩ (.agg #[x, y])).run Tryz.prog W = .ok () ((W.setCell ⟨tb, 0, none⟩ x).setCell ⟨tb, 1, none⟩ y) := by
  have e1 : (W.setCell ⟨tb, 0, none⟩ x).cell? ⟨tb, 1, none⟩ = some o1 := by rw [World.cell?_setCell_other _ _ _ _ (fun e => by simp at e)]; exact h1
  have e2 : (W.setCell ⟨tb, 0, none⟩ x).frozen? ⟨tb, 1, none⟩ = false := by rw [World.frozen?_setCell]; exact f1
  simp [storeVar, Tryz.size82, Result.andThen, Value.cells, storeCells, Addr.add]
  rw [run_store Tryz.prog W ⟨tb, 0, none⟩ x _ hx1]
  simp [h0, f0, Result.andThen]
  rw [run_store Tryz.prog _ ⟨tb, 1, none⟩ y _ hy1]
  simp [e1, e2]
theorem Tryz.set82 (tb b : Nat) (x y o0 o1 : Value) (hx1 : x.oneCell' = true) (hy1 : y.oneCell' = true) (W : World) (hx : W.cell? ⟨b, 0, none⟩ = some x) (hy : W.cell? ⟨b, 1, none⟩ = some y) (h0 : W.cell? ⟨tb, 0, none⟩ = some o0) (h1 : W.cell? ⟨tb, 1, none⟩ = some o1) (f0 : W.frozen? ⟨tb, 0, none⟩ = false) (f1 : W.frozen? ⟨tb, 1, none⟩ = false) :
    (ReflectliteValue.set #[.agg #[.pointer (some ⟨1, 117, none⟩), .pointer (some ⟨tb, 0, none⟩), .int .u64 409], .agg #[.pointer (some ⟨1, 117, none⟩), .pointer (some ⟨b, 0, none⟩), .int .u64 153]]).run Tryz.prog W
      = .ok (.tuple #[]) ((W.setCell ⟨tb, 0, none⟩ x).setCell ⟨tb, 1, none⟩ y) := by
  exact rl2 _ _ (Tryz.parts82a _ _) (Tryz.parts82 _ _) (by decide) (Tryz.loadv82 b x y W hx hy) (Tryz.direct82 _) (Tryz.storev82 tb x y o0 o1 hx1 hy1 W h0 h1 f0 f1)
set_option maxHeartbeats 4000000 in
theorem as_fault (k at' why : Int) (tb : Nat) (a : Addr) (o0 o1 : Value) (w : World) (ha : w.cell? a = some (.pointer (some ⟨tb, 0, none⟩))) (h0 : w.cell? ⟨tb, 0, none⟩ = some o0) (h1 : w.cell? ⟨tb, 1, none⟩ = some o1) (f0 : w.frozen? ⟨tb, 0, none⟩ = false) (f1 : w.frozen? ⟨tb, 1, none⟩ = false) :
    Calls Tryz.prog 86 #[.iface 117 (.agg #[.int .i64 k, .iface 115 (.agg #[.int .i64 at', .int .i64 why])]), .iface 119 (.pointer (some ⟨tb, 0, none⟩)), .agg #[.pointer (some ⟨1, 119, none⟩), .pointer (some a), .int .u64 150], .iface 204 (.agg #[.pointer (some ⟨1, 115, none⟩)])] w fun ev w' => ev = .returned (.bool true) ∧ Fr (fun k => k = tb) w w' ∧ w'.cell? ⟨tb, 0, none⟩ = some (.int .i64 at') ∧ w'.cell? ⟨tb, 1, none⟩ = some (.int .i64 why) := by
  have x46 := @run_callFunc_extern Tryz.prog 83 _ (fun args => ReflectliteValue.unpack (args.getD 0 (.tuple #[]))) Tryz.func83 (by kernel_rfl) (by kernel_rfl) (by kernel_rfl) (by kernel_rfl)
  have x55 := @run_callFunc_extern Tryz.prog 120 _ ReflectliteType.typeOf Tryz.func120 (by kernel_rfl) (by kernel_rfl) (by kernel_rfl) (by kernel_rfl)
  have x94 := @run_callFunc_extern Tryz.prog 166 _ (ReflectliteType.relation "AssignableTo" ReflectliteType.assignableTo) Tryz.func166 (by kernel_rfl) (by kernel_rfl) (by kernel_rfl) (by kernel_rfl)
  have x56 := @run_callFunc_extern Tryz.prog 121 _ (ReflectliteValue.method (ReflectliteValue.valueError "reflectlite.Value.Elem" 0) ReflectliteValue.elem) Tryz.func121 (by kernel_rfl) (by kernel_rfl) (by kernel_rfl) (by kernel_rfl)
  have x57 := @run_callFunc_extern Tryz.prog 122 _ ReflectliteValue.set Tryz.func122 (by kernel_rfl) (by kernel_rfl) (by kernel_rfl) (by kernel_rfl)
  have t80 := Tryz.typeOf80
  have t82 := Tryz.typeOf82
  have mA := Tryz.methodAssignableTo
  have aa := Tryz.assignable8080
  have a82 := Tryz.assignable8280
  have nA := Tryz.noAs82
  have uW := Tryz.unw82
  have mU := Tryz.methodUnwrap
  have al : a.block < w.heap.size := World.block_lt_of_cell? _ _ ha
  have tl : tb < w.heap.size := World.block_lt_of_cell? _ _ h0
  have b1 : Below w.heap.size w ((w.alloc (.cells #[.pointer (some ⟨1, 119, none⟩), .pointer (some a), .int .u64 150] 163)).alloc (.cells #[.int .i64 k, .iface 115 (.agg #[.int .i64 at', .int .i64 why])] 117)) := ((Below.refl _ w).alloc (Nat.le_refl _) _).alloc (by simp) _
  have b2 : Below w.heap.size w (((w.alloc (.cells #[.pointer (some ⟨1, 119, none⟩), .pointer (some a), .int .u64 150] 163)).alloc (.cells #[.int .i64 k, .iface 115 (.agg #[.int .i64 at', .int .i64 why])] 117)).alloc (.cells #[.int .i64 at', .int .i64 why] 115)) := b1.alloc (by simp; omega) _
  have el := Tryz.elemV84 a ⟨tb, 0, none⟩ ((w.alloc (.cells #[.pointer (some ⟨1, 119, none⟩), .pointer (some a), .int .u64 150] 163)).alloc (.cells #[.int .i64 k, .iface 115 (.agg #[.int .i64 at', .int .i64 why])] 117)) ((b1.cell al).trans ha)
  have vo := Tryz.valueOf80 (.int .i64 at') (.int .i64 why) rfl rfl
  have hnew := heap_alloc_new ((w.alloc (.cells #[.pointer (some ⟨1, 119, none⟩), .pointer (some a), .int .u64 150] 163)).alloc (.cells #[.int .i64 k, .iface 115 (.agg #[.int .i64 at', .int .i64 why])] 117)) (.cells #[.int .i64 at', .int .i64 why] 115)
  simp only [World.size_alloc] at hnew
  have g0 := (b2.cell (p := ⟨tb, 0, none⟩) tl).trans h0
  have g1 := (b2.cell (p := ⟨tb, 1, none⟩) tl).trans h1
  have k0 : (((w.alloc (.cells #[.pointer (some ⟨1, 119, none⟩), .pointer (some a), .int .u64 150] 163)).alloc (.cells #[.int .i64 k, .iface 115 (.agg #[.int .i64 at', .int .i64 why])] 117)).alloc (.cells #[.int .i64 at', .int .i64 why] 115)).frozen? ⟨tb, 0, none⟩ = false := (World.frozen?_of_block (b2.block tb tl)).trans f0
  have k1 : (((w.alloc (.cells #[.pointer (some ⟨1, 119, none⟩), .pointer (some a), .int .u64 150] 163)).alloc (.cells #[.int .i64 k, .iface 115 (.agg #[.int .i64 at', .int .i64 why])] 117)).alloc (.cells #[.int .i64 at', .int .i64 why] 115)).frozen? ⟨tb, 1, none⟩ = false := (World.frozen?_of_block (b2.block tb tl)).trans f1
  have st := Tryz.set80 tb (w.heap.size + 1 + 1) (.int .i64 at') (.int .i64 why) o0 o1 rfl rfl (((w.alloc (.cells #[.pointer (some ⟨1, 119, none⟩), .pointer (some a), .int .u64 150] 163)).alloc (.cells #[.int .i64 k, .iface 115 (.agg #[.int .i64 at', .int .i64 why])] 117)).alloc (.cells #[.int .i64 at', .int .i64 why] 115)) (by unfold World.cell?; simp only [hnew]; rfl) (by unfold World.cell?; simp only [hnew]; rfl) g0 g1 k0 k1
  have HB := b2
  go_enter Tryz.func86, Tryz.ntmps86
  go_wp2
  refine wp_loop_rounds 2 ?_
  rw [rounds_succ]
  go_wp2
  rw [rounds_succ]
  go_wp2
  go_ret
  refine ⟨rfl, ((Fr.of_below (S := fun k => k = tb) HB).setCell ⟨tb, 0, none⟩ (.inr rfl) _).setCell ⟨tb, 1, none⟩ (.inr rfl) _, ?_, ?_⟩
  · rw [World.cell?_setCell_other _ _ _ _ (fun e => by simp at e)]
    exact World.cell?_setCell_same _ _ _ g0
  · exact World.cell?_setCell_same _ _ _ (u := o1) (by rw [World.cell?_setCell_other _ _ _ _ (fun e => by simp at e)]; exact g1)
set_option maxHeartbeats 4000000 in
theorem as_within (k at' why : Int) (tb : Nat) (a : Addr) (o0 o1 : Value) (w : World) (ha : w.cell? a = some (.pointer (some ⟨tb, 0, none⟩))) (h0 : w.cell? ⟨tb, 0, none⟩ = some o0) (h1 : w.cell? ⟨tb, 1, none⟩ = some o1) (f0 : w.frozen? ⟨tb, 0, none⟩ = false) (f1 : w.frozen? ⟨tb, 1, none⟩ = false) :
    Calls Tryz.prog 86 #[.iface 117 (.agg #[.int .i64 k, .iface 115 (.agg #[.int .i64 at', .int .i64 why])]), .iface 120 (.pointer (some ⟨tb, 0, none⟩)), .agg #[.pointer (some ⟨1, 120, none⟩), .pointer (some a), .int .u64 150], .iface 204 (.agg #[.pointer (some ⟨1, 117, none⟩)])] w fun ev w' => ev = .returned (.bool true) ∧ Fr (fun k => k = tb) w w' ∧ w'.cell? ⟨tb, 0, none⟩ = some (.int .i64 k) ∧ w'.cell? ⟨tb, 1, none⟩ = some ((.iface 115 (.agg #[.int .i64 at', .int .i64 why]))) := by
  have x46 := @run_callFunc_extern Tryz.prog 83 _ (fun args => ReflectliteValue.unpack (args.getD 0 (.tuple #[]))) Tryz.func83 (by kernel_rfl) (by kernel_rfl) (by kernel_rfl) (by kernel_rfl)
  have x55 := @run_callFunc_extern Tryz.prog 120 _ ReflectliteType.typeOf Tryz.func120 (by kernel_rfl) (by kernel_rfl) (by kernel_rfl) (by kernel_rfl)
  have x94 := @run_callFunc_extern Tryz.prog 166 _ (ReflectliteType.relation "AssignableTo" ReflectliteType.assignableTo) Tryz.func166 (by kernel_rfl) (by kernel_rfl) (by kernel_rfl) (by kernel_rfl)
  have x56 := @run_callFunc_extern Tryz.prog 121 _ (ReflectliteValue.method (ReflectliteValue.valueError "reflectlite.Value.Elem" 0) ReflectliteValue.elem) Tryz.func121 (by kernel_rfl) (by kernel_rfl) (by kernel_rfl) (by kernel_rfl)
  have x57 := @run_callFunc_extern Tryz.prog 122 _ ReflectliteValue.set Tryz.func122 (by kernel_rfl) (by kernel_rfl) (by kernel_rfl) (by kernel_rfl)
  have t80 := Tryz.typeOf80
  have t82 := Tryz.typeOf82
  have mA := Tryz.methodAssignableTo
  have aa := Tryz.assignable8282
  have a82 := Tryz.assignable8280
  have nA := Tryz.noAs82
  have uW := Tryz.unw82
  have mU := Tryz.methodUnwrap
  have al : a.block < w.heap.size := World.block_lt_of_cell? _ _ ha
  have tl : tb < w.heap.size := World.block_lt_of_cell? _ _ h0
  have b1 : Below w.heap.size w (w.alloc (.cells #[.pointer (some ⟨1, 120, none⟩), .pointer (some a), .int .u64 150] 163)) := (Below.refl _ w).alloc (Nat.le_refl _) _
  have b2 : Below w.heap.size w ((w.alloc (.cells #[.pointer (some ⟨1, 120, none⟩), .pointer (some a), .int .u64 150] 163)).alloc (.cells #[.int .i64 k, (.iface 115 (.agg #[.int .i64 at', .int .i64 why]))] 117)) := b1.alloc (by simp) _
  have el := Tryz.elemV85 a ⟨tb, 0, none⟩ (w.alloc (.cells #[.pointer (some ⟨1, 120, none⟩), .pointer (some a), .int .u64 150] 163)) ((b1.cell al).trans ha)
  have vo := Tryz.valueOf82 (.int .i64 k) ((.iface 115 (.agg #[.int .i64 at', .int .i64 why]))) rfl rfl
  have hnew := heap_alloc_new (w.alloc (.cells #[.pointer (some ⟨1, 120, none⟩), .pointer (some a), .int .u64 150] 163)) (.cells #[.int .i64 k, (.iface 115 (.agg #[.int .i64 at', .int .i64 why]))] 117)
  simp only [World.size_alloc] at hnew
  have g0 := (b2.cell (p := ⟨tb, 0, none⟩) tl).trans h0
  have g1 := (b2.cell (p := ⟨tb, 1, none⟩) tl).trans h1
  have k0 : ((w.alloc (.cells #[.pointer (some ⟨1, 120, none⟩), .pointer (some a), .int .u64 150] 163)).alloc (.cells #[.int .i64 k, (.iface 115 (.agg #[.int .i64 at', .int .i64 why]))] 117)).frozen? ⟨tb, 0, none⟩ = false := (World.frozen?_of_block (b2.block tb tl)).trans f0
  have k1 : ((w.alloc (.cells #[.pointer (some ⟨1, 120, none⟩), .pointer (some a), .int .u64 150] 163)).alloc (.cells #[.int .i64 k, (.iface 115 (.agg #[.int .i64 at', .int .i64 why]))] 117)).frozen? ⟨tb, 1, none⟩ = false := (World.frozen?_of_block (b2.block tb tl)).trans f1
  have st := Tryz.set82 tb (w.heap.size + 1) (.int .i64 k) ((.iface 115 (.agg #[.int .i64 at', .int .i64 why]))) o0 o1 rfl rfl ((w.alloc (.cells #[.pointer (some ⟨1, 120, none⟩), .pointer (some a), .int .u64 150] 163)).alloc (.cells #[.int .i64 k, (.iface 115 (.agg #[.int .i64 at', .int .i64 why]))] 117)) (by unfold World.cell?; simp only [hnew]; rfl) (by unfold World.cell?; simp only [hnew]; rfl) g0 g1 k0 k1
  have HB := b2
  go_enter Tryz.func86, Tryz.ntmps86
  go_wp2
  refine wp_loop_rounds 1 ?_
  rw [rounds_succ]
  go_wp2


  go_ret
  have c1 : ((w.setCell ⟨tb, 0, none⟩ (.int .i64 k)).setCell ⟨tb, 1, none⟩ ((.iface 115 (.agg #[.int .i64 at', .int .i64 why])))).cell? ⟨tb, 1, none⟩ = some ((.iface 115 (.agg #[.int .i64 at', .int .i64 why]))) := World.cell?_setCell_same _ _ _ (u := o1) (by rw [World.cell?_setCell_other _ _ _ _ (fun e => by simp at e)]; exact h1)
  have c0 : ((w.setCell ⟨tb, 0, none⟩ (.int .i64 k)).setCell ⟨tb, 1, none⟩ ((.iface 115 (.agg #[.int .i64 at', .int .i64 why])))).cell? ⟨tb, 0, none⟩ = some (.int .i64 k) := by
    rw [World.cell?_setCell_other _ _ _ _ (fun e => by simp at e)]
    exact World.cell?_setCell_same _ _ _ h0
  have tl5 : tb < ((w.setCell ⟨tb, 0, none⟩ (.int .i64 k)).setCell ⟨tb, 1, none⟩ ((.iface 115 (.agg #[.int .i64 at', .int .i64 why])))).heap.size := World.block_lt_of_cell? _ _ c0
  have ff : Fr (fun k => k = tb) w ((w.setCell ⟨tb, 0, none⟩ (.int .i64 k)).setCell ⟨tb, 1, none⟩ ((.iface 115 (.agg #[.int .i64 at', .int .i64 why])))) := ((Fr.refl (fun k => k = tb) w).setCell ⟨tb, 0, none⟩ (.inr rfl) _).setCell ⟨tb, 1, none⟩ (.inr rfl) _
  exact ⟨rfl, ((ff.alloc _).alloc _), (World.cell?_of_block ((((Below.refl _ _).alloc (by simp) _).alloc (by simp) _).block tb tl5)).trans c0, (World.cell?_of_block ((((Below.refl _ _).alloc (by simp) _).alloc (by simp) _).block tb tl5)).trans c1⟩

set_option linter.unusedVariables false
set_option linter.unusedSimpArgs false
/-- The variable errors.errorType is laid. -/
def Laid (w : World) : Prop := w.cell? ⟨0, 0, none⟩ = some (.iface 204 (.agg #[.pointer (some ⟨1, 81, none⟩)]))
set_option maxHeartbeats 4000000 in
theorem asFault_any (k at' why : Int) (tb : Nat) (o0 o1 : Value) (w : World) (hg : Laid w) (h0 : w.cell? ⟨tb, 0, none⟩ = some o0) (h1 : w.cell? ⟨tb, 1, none⟩ = some o1) (f0 : w.frozen? ⟨tb, 0, none⟩ = false) (f1 : w.frozen? ⟨tb, 1, none⟩ = false) :
    Calls Tryz.prog 60 #[.iface 117 (.agg #[.int .i64 k, .iface 115 (.agg #[.int .i64 at', .int .i64 why])]), .iface 119 (.pointer (some ⟨tb, 0, none⟩))] w fun ev w' => ev = .returned (.bool true) ∧ Fr (fun k => k = tb) w w' ∧ w'.cell? ⟨tb, 0, none⟩ = some (.int .i64 at') ∧ w'.cell? ⟨tb, 1, none⟩ = some (.int .i64 why) := by
  have x46 := @run_callFunc_extern Tryz.prog 83 _ (fun args => ReflectliteValue.unpack (args.getD 0 (.tuple #[]))) Tryz.func83 (by kernel_rfl) (by kernel_rfl) (by kernel_rfl) (by kernel_rfl)
  have x47 := @run_callFunc_extern Tryz.prog 84 _ (ReflectliteValue.methodAny (ReflectliteValue.valueError "reflectlite.Value.Type" 0) (fun t _ _ _ => ReflectliteType.toType t)) Tryz.func84 (by kernel_rfl) (by kernel_rfl) (by kernel_rfl) (by kernel_rfl)
  have x48 := @run_callFunc_extern Tryz.prog 85 _ (ReflectliteValue.method (ReflectliteValue.valueError "reflectlite.Value.IsNil" 0) ReflectliteValue.isNil) Tryz.func85 (by kernel_rfl) (by kernel_rfl) (by kernel_rfl) (by kernel_rfl)
  have x83 := @run_callFunc_extern Tryz.prog 155 _ (ReflectliteType.abiMethod fun t => do pure (.int .u8 (← Rtype.kind t))) Tryz.func155 (by kernel_rfl) (by kernel_rfl) (by kernel_rfl) (by kernel_rfl)
  have x96 := @run_callFunc_extern Tryz.prog 168 _ (ReflectliteType.method ReflectliteType.elem) Tryz.func168 (by kernel_rfl) (by kernel_rfl) (by kernel_rfl) (by kernel_rfl)
  have x97 := @run_callFunc_extern Tryz.prog 169 _ (ReflectliteType.relation "Implements" ReflectliteType.implements_) Tryz.func169 (by kernel_rfl) (by kernel_rfl) (by kernel_rfl) (by kernel_rfl)
  have gl : 0 < w.heap.size := World.block_lt_of_cell? _ _ hg
  have tl : tb < w.heap.size := World.block_lt_of_cell? _ _ h0
  have b1 : Below w.heap.size w ((w.alloc (.cells #[.pointer (some ⟨tb, 0, none⟩)] 119)).alloc (.cells #[.pointer (some ⟨1, 119, none⟩), .pointer (some ⟨w.heap.size, 0, none⟩), .int .u64 150] 163)) := ((Below.refl _ w).alloc (Nat.le_refl _) _).alloc (by simp) _
  have hgW := (b1.cell (p := ⟨0, 0, none⟩) gl).trans hg
  have hnew := heap_alloc_new w (.cells #[.pointer (some ⟨tb, 0, none⟩)] 119)
  have hbl : ((w.alloc (.cells #[.pointer (some ⟨tb, 0, none⟩)] 119)).alloc (.cells #[.pointer (some ⟨1, 119, none⟩), .pointer (some ⟨w.heap.size, 0, none⟩), .int .u64 150] 163)).heap[w.heap.size]? = some (.cells #[.pointer (some ⟨tb, 0, none⟩)] 119) := (Below.heap_alloc _ _ _ (by simp)).trans hnew
  have ca : ((w.alloc (.cells #[.pointer (some ⟨tb, 0, none⟩)] 119)).alloc (.cells #[.pointer (some ⟨1, 119, none⟩), .pointer (some ⟨w.heap.size, 0, none⟩), .int .u64 150] 163)).cell? ⟨w.heap.size, 0, none⟩ = some (.pointer (some ⟨tb, 0, none⟩)) := by unfold World.cell?; simp only [hbl]; rfl
  have vo := Tryz.valueOf84 ⟨tb, 0, none⟩
  have ty := Tryz.type84
  have mK := Tryz.methodKind
  have kk := Tryz.kind84
  have ke := Tryz.kind80
  have nl := Tryz.isNil84 ⟨w.heap.size, 0, none⟩ ⟨tb, 0, none⟩ ((w.alloc (.cells #[.pointer (some ⟨tb, 0, none⟩)] 119)).alloc (.cells #[.pointer (some ⟨1, 119, none⟩), .pointer (some ⟨w.heap.size, 0, none⟩), .int .u64 150] 163)) ca
  have mE := Tryz.methodElem
  have el := Tryz.elem84
  have mI := Tryz.methodImplements
  have im := Tryz.implements80
  have HA := hide (as_fault k at' why tb ⟨w.heap.size, 0, none⟩ o0 o1 ((w.alloc (.cells #[.pointer (some ⟨tb, 0, none⟩)] 119)).alloc (.cells #[.pointer (some ⟨1, 119, none⟩), .pointer (some ⟨w.heap.size, 0, none⟩), .int .u64 150] 163)) ca ((b1.cell (p := ⟨tb, 0, none⟩) tl).trans h0) ((b1.cell (p := ⟨tb, 1, none⟩) tl).trans h1) ((World.frozen?_of_block (b1.block tb tl)).trans f0) ((World.frozen?_of_block (b1.block tb tl)).trans f1))
  have HB := hide b1
  clear b1 hbl hnew
  go_enter Tryz.func60, Tryz.ntmps60
  go_wp2_with fail
  refine (unhide HA).mono ?_
  rintro ev w' ⟨rfl, f, c0, c1⟩
  go_wp2_with fail
  go_ret
  exact ⟨rfl, (Fr.of_below (unhide HB)).trans f, c0, c1⟩
set_option maxHeartbeats 4000000 in
theorem asWithin_any (k at' why : Int) (tb : Nat) (o0 o1 : Value) (w : World) (hg : Laid w) (h0 : w.cell? ⟨tb, 0, none⟩ = some o0) (h1 : w.cell? ⟨tb, 1, none⟩ = some o1) (f0 : w.frozen? ⟨tb, 0, none⟩ = false) (f1 : w.frozen? ⟨tb, 1, none⟩ = false) :
    Calls Tryz.prog 60 #[.iface 117 (.agg #[.int .i64 k, .iface 115 (.agg #[.int .i64 at', .int .i64 why])]), .iface 120 (.pointer (some ⟨tb, 0, none⟩))] w fun ev w' => ev = .returned (.bool true) ∧ Fr (fun k => k = tb) w w' ∧ w'.cell? ⟨tb, 0, none⟩ = some (.int .i64 k) ∧ w'.cell? ⟨tb, 1, none⟩ = some ((.iface 115 (.agg #[.int .i64 at', .int .i64 why]))) := by
  have x46 := @run_callFunc_extern Tryz.prog 83 _ (fun args => ReflectliteValue.unpack (args.getD 0 (.tuple #[]))) Tryz.func83 (by kernel_rfl) (by kernel_rfl) (by kernel_rfl) (by kernel_rfl)
  have x47 := @run_callFunc_extern Tryz.prog 84 _ (ReflectliteValue.methodAny (ReflectliteValue.valueError "reflectlite.Value.Type" 0) (fun t _ _ _ => ReflectliteType.toType t)) Tryz.func84 (by kernel_rfl) (by kernel_rfl) (by kernel_rfl) (by kernel_rfl)
  have x48 := @run_callFunc_extern Tryz.prog 85 _ (ReflectliteValue.method (ReflectliteValue.valueError "reflectlite.Value.IsNil" 0) ReflectliteValue.isNil) Tryz.func85 (by kernel_rfl) (by kernel_rfl) (by kernel_rfl) (by kernel_rfl)
  have x83 := @run_callFunc_extern Tryz.prog 155 _ (ReflectliteType.abiMethod fun t => do pure (.int .u8 (← Rtype.kind t))) Tryz.func155 (by kernel_rfl) (by kernel_rfl) (by kernel_rfl) (by kernel_rfl)
  have x96 := @run_callFunc_extern Tryz.prog 168 _ (ReflectliteType.method ReflectliteType.elem) Tryz.func168 (by kernel_rfl) (by kernel_rfl) (by kernel_rfl) (by kernel_rfl)
  have x97 := @run_callFunc_extern Tryz.prog 169 _ (ReflectliteType.relation "Implements" ReflectliteType.implements_) Tryz.func169 (by kernel_rfl) (by kernel_rfl) (by kernel_rfl) (by kernel_rfl)
  have gl : 0 < w.heap.size := World.block_lt_of_cell? _ _ hg
  have tl : tb < w.heap.size := World.block_lt_of_cell? _ _ h0
  have b1 : Below w.heap.size w ((w.alloc (.cells #[.pointer (some ⟨tb, 0, none⟩)] 120)).alloc (.cells #[.pointer (some ⟨1, 120, none⟩), .pointer (some ⟨w.heap.size, 0, none⟩), .int .u64 150] 163)) := ((Below.refl _ w).alloc (Nat.le_refl _) _).alloc (by simp) _
  have hgW := (b1.cell (p := ⟨0, 0, none⟩) gl).trans hg
  have hnew := heap_alloc_new w (.cells #[.pointer (some ⟨tb, 0, none⟩)] 120)
  have hbl : ((w.alloc (.cells #[.pointer (some ⟨tb, 0, none⟩)] 120)).alloc (.cells #[.pointer (some ⟨1, 120, none⟩), .pointer (some ⟨w.heap.size, 0, none⟩), .int .u64 150] 163)).heap[w.heap.size]? = some (.cells #[.pointer (some ⟨tb, 0, none⟩)] 120) := (Below.heap_alloc _ _ _ (by simp)).trans hnew
  have ca : ((w.alloc (.cells #[.pointer (some ⟨tb, 0, none⟩)] 120)).alloc (.cells #[.pointer (some ⟨1, 120, none⟩), .pointer (some ⟨w.heap.size, 0, none⟩), .int .u64 150] 163)).cell? ⟨w.heap.size, 0, none⟩ = some (.pointer (some ⟨tb, 0, none⟩)) := by unfold World.cell?; simp only [hbl]; rfl
  have vo := Tryz.valueOf85 ⟨tb, 0, none⟩
  have ty := Tryz.type85
  have mK := Tryz.methodKind
  have kk := Tryz.kind85
  have ke := Tryz.kind82
  have nl := Tryz.isNil85 ⟨w.heap.size, 0, none⟩ ⟨tb, 0, none⟩ ((w.alloc (.cells #[.pointer (some ⟨tb, 0, none⟩)] 120)).alloc (.cells #[.pointer (some ⟨1, 120, none⟩), .pointer (some ⟨w.heap.size, 0, none⟩), .int .u64 150] 163)) ca
  have mE := Tryz.methodElem
  have el := Tryz.elem85
  have mI := Tryz.methodImplements
  have im := Tryz.implements82
  have HA := hide (as_within k at' why tb ⟨w.heap.size, 0, none⟩ o0 o1 ((w.alloc (.cells #[.pointer (some ⟨tb, 0, none⟩)] 120)).alloc (.cells #[.pointer (some ⟨1, 120, none⟩), .pointer (some ⟨w.heap.size, 0, none⟩), .int .u64 150] 163)) ca ((b1.cell (p := ⟨tb, 0, none⟩) tl).trans h0) ((b1.cell (p := ⟨tb, 1, none⟩) tl).trans h1) ((World.frozen?_of_block (b1.block tb tl)).trans f0) ((World.frozen?_of_block (b1.block tb tl)).trans f1))
  have HB := hide b1
  clear b1 hbl hnew
  go_enter Tryz.func60, Tryz.ntmps60
  go_wp2_with fail
  refine (unhide HA).mono ?_
  rintro ev w' ⟨rfl, f, c0, c1⟩
  go_wp2_with fail
  go_ret
  exact ⟨rfl, (Fr.of_below (unhide HB)).trans f, c0, c1⟩
end Go.Proofs.YtpfogphpeegfdaaGreatDoor
