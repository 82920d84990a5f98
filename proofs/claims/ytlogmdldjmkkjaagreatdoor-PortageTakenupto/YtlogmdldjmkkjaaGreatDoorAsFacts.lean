/-
  errors.As at the two types of faults.
-/
import Derived.Test.YtlogmdldjmkkjaaGreatDoorPRow
import Derived.LaidEql
import Derived.Stop.Asserts
import Derived.RowKitTokens
namespace Go.Proofs.YtlogmdldjmkkjaaGreatDoor
open Go.RowKit Go.Extern.Stop Go.Stop Go.Extern
set_option linter.unusedVariables false

theorem as_nil (t : Value) (w : World) : Calls Tryz.prog 82 #[.nilIface, t] w fun e w' => e = .returned (.bool false) ∧ w' = w := by
  go_enter Tryz.func82, Tryz.ntmps82
  go_wp2
  go_ret
  exact ⟨rfl, rfl⟩
/-- A method of a value whose parts are known. -/
theorem rl1 (z : Sem Value) (f : TypeId → Addr → Nat → Nat → Sem Value) (v : Value) {P : Program} {W : World} {t : TypeId} {a : Addr} {fl : Nat} (h : (ReflectliteValue.parts v).run P W = .ok (some (t, a, fl)) W) : (ReflectliteValue.method z f #[v]).run P W = (f t a fl (fl % 32)).run P W := by
  change (Bind.bind (ReflectliteValue.parts v) _ : Sem Value).run P W = _
  rw [Sem.run_bind, h]
  rfl
/-- Set, where both values' parts are known, and the one can be laid into the other. -/
theorem rl2 (v x : Value) {P : Program} {W W' : World} {dst src : TypeId} {a b : Addr} {fl g : Nat} {val : Value} (h1 : (ReflectliteValue.parts v).run P W = .ok (some (dst, a, fl)) W) (h2 : (ReflectliteValue.parts x).run P W = .ok (some (src, b, g)) W) (hf : (fl / ReflectliteValue.flagAddr % 2 == 0) = false)
    (h3 : (loadVar src b).run P W = .ok val W) (h4 : (Rtype.directlyAssignable dst src).run P W = .ok true W) (h5 : (storeVar dst a val).run P W = .ok () W') : (ReflectliteValue.set #[v, x]).run P W = .ok (.tuple #[]) W' := by
  change (Bind.bind (ReflectliteValue.parts v) _ : Sem Value).run P W = _
  rw [Sem.run_bind, h1]
  change (Bind.bind (ReflectliteValue.parts x) _ : Sem Value).run P W = _
  rw [Sem.run_bind, h2]
  simp [Result.andThen, hf, h3, h4, h5]
theorem Tryz.methodKind (h : Value) (w : World) : (Go.method 324 257 (.agg #[h]) "Kind").run Tryz.prog w = .ok (224, h) w := by kernel_rfl
theorem Tryz.methodElem (h : Value) (w : World) : (Go.method 324 257 (.agg #[h]) "Elem").run Tryz.prog w = .ok (237, .agg #[h]) w := by kernel_rfl
theorem Tryz.methodImplements (h : Value) (w : World) : (Go.method 324 257 (.agg #[h]) "Implements").run Tryz.prog w = .ok (238, .agg #[h]) w := by kernel_rfl
theorem Tryz.methodAssignableTo (h : Value) (w : World) : (Go.method 324 257 (.agg #[h]) "AssignableTo").run Tryz.prog w = .ok (235, .agg #[h]) w := by kernel_rfl
theorem Tryz.kind80 (w : World) : ((ReflectliteType.abiMethod fun t => (fun a : Nat => Value.int IntKind.u8 (a : Int)) <$> Rtype.kind t) #[.pointer (some ⟨2, 138, none⟩)]).run Tryz.prog w = .ok (.int .u8 25) w := by kernel_rfl
theorem Tryz.kind82 (w : World) : ((ReflectliteType.abiMethod fun t => (fun a : Nat => Value.int IntKind.u8 (a : Int)) <$> Rtype.kind t) #[.pointer (some ⟨2, 140, none⟩)]).run Tryz.prog w = .ok (.int .u8 25) w := by kernel_rfl
theorem Tryz.kind84 (w : World) : ((ReflectliteType.abiMethod fun t => (fun a : Nat => Value.int IntKind.u8 (a : Int)) <$> Rtype.kind t) #[.pointer (some ⟨2, 142, none⟩)]).run Tryz.prog w = .ok (.int .u8 22) w := by kernel_rfl
theorem Tryz.kind85 (w : World) : ((ReflectliteType.abiMethod fun t => (fun a : Nat => Value.int IntKind.u8 (a : Int)) <$> Rtype.kind t) #[.pointer (some ⟨2, 143, none⟩)]).run Tryz.prog w = .ok (.int .u8 22) w := by kernel_rfl
theorem Tryz.valueOf84 (t : Addr) (w : World) : (ReflectliteValue.unpack (.iface 142 (.pointer (some t)))).run Tryz.prog w
    = .ok (.agg #[.pointer (some ⟨2, 142, none⟩), .pointer (some ⟨w.heap.size, 0, none⟩), .int .u64 150]) (w.alloc (.cells #[.pointer (some t)] 142)) := by kernel_rfl
theorem Tryz.type84 (a : Addr) (w : World) : (ReflectliteValue.methodAny (ReflectliteValue.valueError "reflectlite.Value.Type" 0) (fun t _ _ _ => ReflectliteType.toType t) #[.agg #[.pointer (some ⟨2, 142, none⟩), .pointer (some a), .int .u64 150]]).run Tryz.prog w
    = .ok (.iface 257 (.agg #[.pointer (some ⟨2, 142, none⟩)])) w := by kernel_rfl
theorem Tryz.parts84 (a : Addr) (w : World) : (ReflectliteValue.parts (.agg #[.pointer (some ⟨2, 142, none⟩), .pointer (some a), .int .u64 150])).run Tryz.prog w = .ok (some (142, a, 150)) w := by kernel_rfl
theorem Tryz.isNil84 (a p : Addr) (W : World) (ha : W.cell? a = some (.pointer (some p))) :
    (ReflectliteValue.method (ReflectliteValue.valueError "reflectlite.Value.IsNil" 0) ReflectliteValue.isNil #[.agg #[.pointer (some ⟨2, 142, none⟩), .pointer (some a), .int .u64 150]]).run Tryz.prog W = .ok (.bool false) W := by
  rw [rl1 _ _ _ (Tryz.parts84 _ _)]
  simp [ReflectliteValue.isNil, loadVar, isAgg, underlying, Tryz.underlying142, ha, Result.andThen]
theorem Tryz.elem84 (w : World) : (ReflectliteType.method ReflectliteType.elem #[.agg #[.pointer (some ⟨2, 142, none⟩)]]).run Tryz.prog w = .ok (.iface 257 (.agg #[.pointer (some ⟨2, 138, none⟩)])) w := by kernel_rfl
theorem Tryz.implements80 (w : World) : (ReflectliteType.relation "Implements" ReflectliteType.implements_ #[.agg #[.pointer (some ⟨2, 138, none⟩)], .iface 257 (.agg #[.pointer (some ⟨2, 96, none⟩)])]).run Tryz.prog w = .ok (.bool true) w := by kernel_rfl
theorem Tryz.typeOf80 (v : Value) (w : World) : (ReflectliteType.typeOf #[.iface 138 v]).run Tryz.prog w = .ok (.iface 257 (.agg #[.pointer (some ⟨2, 138, none⟩)])) w := by kernel_rfl
theorem Tryz.elemOf84 (w : World) : (Rtype.elem? 142).run Tryz.prog w = .ok (some 138) w := by kernel_rfl
theorem Tryz.mk80 (p : Addr) (w : World) : (ReflectliteValue.mk 138 p ReflectliteValue.flagAddr).run Tryz.prog w = .ok (.agg #[.pointer (some ⟨2, 138, none⟩), .pointer (some p), .int .u64 409]) w := by kernel_rfl
theorem Tryz.elemV84 (a p : Addr) (W : World) (ha : W.cell? a = some (.pointer (some p))) :
    (ReflectliteValue.method (ReflectliteValue.valueError "reflectlite.Value.Elem" 0) ReflectliteValue.elem #[.agg #[.pointer (some ⟨2, 142, none⟩), .pointer (some a), .int .u64 150]]).run Tryz.prog W
      = .ok (.agg #[.pointer (some ⟨2, 138, none⟩), .pointer (some p), .int .u64 409]) W := by
  rw [rl1 _ _ _ (Tryz.parts84 _ _)]
  simp [ReflectliteValue.elem, loadVar, isAgg, underlying, Tryz.underlying142, ha, Result.andThen, Tryz.elemOf84, Tryz.mk80]
theorem Tryz.parts80a (a : Addr) (w : World) : (ReflectliteValue.parts (.agg #[.pointer (some ⟨2, 138, none⟩), .pointer (some a), .int .u64 409])).run Tryz.prog w = .ok (some (138, a, 409)) w := by kernel_rfl
theorem Tryz.parts80 (a : Addr) (w : World) : (ReflectliteValue.parts (.agg #[.pointer (some ⟨2, 138, none⟩), .pointer (some a), .int .u64 153])).run Tryz.prog w = .ok (some (138, a, 153)) w := by kernel_rfl
theorem Tryz.direct80 (w : World) : (Rtype.directlyAssignable 138 138).run Tryz.prog w = .ok true w := by kernel_rfl
theorem Tryz.size80 (w : World) : (sizeOf 138).run Tryz.prog w = .ok 2 w := by kernel_rfl
theorem Tryz.valueOf80 (u v : Value) (hu : u.cells = #[u]) (hv : v.cells = #[v]) (w : World) : (ReflectliteValue.unpack (.iface 138 (.agg #[u, v]))).run Tryz.prog w
    = .ok (.agg #[.pointer (some ⟨2, 138, none⟩), .pointer (some ⟨w.heap.size, 0, none⟩), .int .u64 153]) (w.alloc (.cells #[u, v] 138)) := by kernel_rfl
theorem Tryz.valueOf85 (t : Addr) (w : World) : (ReflectliteValue.unpack (.iface 143 (.pointer (some t)))).run Tryz.prog w
    = .ok (.agg #[.pointer (some ⟨2, 143, none⟩), .pointer (some ⟨w.heap.size, 0, none⟩), .int .u64 150]) (w.alloc (.cells #[.pointer (some t)] 143)) := by kernel_rfl
theorem Tryz.type85 (a : Addr) (w : World) : (ReflectliteValue.methodAny (ReflectliteValue.valueError "reflectlite.Value.Type" 0) (fun t _ _ _ => ReflectliteType.toType t) #[.agg #[.pointer (some ⟨2, 143, none⟩), .pointer (some a), .int .u64 150]]).run Tryz.prog w
    = .ok (.iface 257 (.agg #[.pointer (some ⟨2, 143, none⟩)])) w := by kernel_rfl
theorem Tryz.parts85 (a : Addr) (w : World) : (ReflectliteValue.parts (.agg #[.pointer (some ⟨2, 143, none⟩), .pointer (some a), .int .u64 150])).run Tryz.prog w = .ok (some (143, a, 150)) w := by kernel_rfl
theorem Tryz.isNil85 (a p : Addr) (W : World) (ha : W.cell? a = some (.pointer (some p))) :
    (ReflectliteValue.method (ReflectliteValue.valueError "reflectlite.Value.IsNil" 0) ReflectliteValue.isNil #[.agg #[.pointer (some ⟨2, 143, none⟩), .pointer (some a), .int .u64 150]]).run Tryz.prog W = .ok (.bool false) W := by
  rw [rl1 _ _ _ (Tryz.parts85 _ _)]
  simp [ReflectliteValue.isNil, loadVar, isAgg, underlying, Tryz.underlying143, ha, Result.andThen]
theorem Tryz.elem85 (w : World) : (ReflectliteType.method ReflectliteType.elem #[.agg #[.pointer (some ⟨2, 143, none⟩)]]).run Tryz.prog w = .ok (.iface 257 (.agg #[.pointer (some ⟨2, 140, none⟩)])) w := by kernel_rfl
theorem Tryz.implements82 (w : World) : (ReflectliteType.relation "Implements" ReflectliteType.implements_ #[.agg #[.pointer (some ⟨2, 140, none⟩)], .iface 257 (.agg #[.pointer (some ⟨2, 96, none⟩)])]).run Tryz.prog w = .ok (.bool true) w := by kernel_rfl
theorem Tryz.typeOf82 (v : Value) (w : World) : (ReflectliteType.typeOf #[.iface 140 v]).run Tryz.prog w = .ok (.iface 257 (.agg #[.pointer (some ⟨2, 140, none⟩)])) w := by kernel_rfl
theorem Tryz.elemOf85 (w : World) : (Rtype.elem? 143).run Tryz.prog w = .ok (some 140) w := by kernel_rfl
theorem Tryz.mk82 (p : Addr) (w : World) : (ReflectliteValue.mk 140 p ReflectliteValue.flagAddr).run Tryz.prog w = .ok (.agg #[.pointer (some ⟨2, 140, none⟩), .pointer (some p), .int .u64 409]) w := by kernel_rfl
theorem Tryz.elemV85 (a p : Addr) (W : World) (ha : W.cell? a = some (.pointer (some p))) :
    (ReflectliteValue.method (ReflectliteValue.valueError "reflectlite.Value.Elem" 0) ReflectliteValue.elem #[.agg #[.pointer (some ⟨2, 143, none⟩), .pointer (some a), .int .u64 150]]).run Tryz.prog W
      = .ok (.agg #[.pointer (some ⟨2, 140, none⟩), .pointer (some p), .int .u64 409]) W := by
  rw [rl1 _ _ _ (Tryz.parts85 _ _)]
  simp [ReflectliteValue.elem, loadVar, isAgg, underlying, Tryz.underlying143, ha, Result.andThen, Tryz.elemOf85, Tryz.mk82]
theorem Tryz.parts82a (a : Addr) (w : World) : (ReflectliteValue.parts (.agg #[.pointer (some ⟨2, 140, none⟩), .pointer (some a), .int .u64 409])).run Tryz.prog w = .ok (some (140, a, 409)) w := by kernel_rfl
theorem Tryz.parts82 (a : Addr) (w : World) : (ReflectliteValue.parts (.agg #[.pointer (some ⟨2, 140, none⟩), .pointer (some a), .int .u64 153])).run Tryz.prog w = .ok (some (140, a, 153)) w := by kernel_rfl
theorem Tryz.direct82 (w : World) : (Rtype.directlyAssignable 140 140).run Tryz.prog w = .ok true w := by kernel_rfl
theorem Tryz.size82 (w : World) : (sizeOf 140).run Tryz.prog w = .ok 2 w := by kernel_rfl
theorem Tryz.valueOf82 (u v : Value) (hu : u.cells = #[u]) (hv : v.cells = #[v]) (w : World) : (ReflectliteValue.unpack (.iface 140 (.agg #[u, v]))).run Tryz.prog w
    = .ok (.agg #[.pointer (some ⟨2, 140, none⟩), .pointer (some ⟨w.heap.size, 0, none⟩), .int .u64 153]) (w.alloc (.cells #[u, v] 140)) := by kernel_rfl
theorem Tryz.assignable8080 (w : World) : (ReflectliteType.relation "AssignableTo" ReflectliteType.assignableTo #[.agg #[.pointer (some ⟨2, 138, none⟩)], .iface 257 (.agg #[.pointer (some ⟨2, 138, none⟩)])]).run Tryz.prog w = .ok (.bool true) w := by kernel_rfl
theorem Tryz.assignable8280 (w : World) : (ReflectliteType.relation "AssignableTo" ReflectliteType.assignableTo #[.agg #[.pointer (some ⟨2, 140, none⟩)], .iface 257 (.agg #[.pointer (some ⟨2, 138, none⟩)])]).run Tryz.prog w = .ok (.bool false) w := by kernel_rfl
theorem Tryz.assignable8282 (w : World) : (ReflectliteType.relation "AssignableTo" ReflectliteType.assignableTo #[.agg #[.pointer (some ⟨2, 140, none⟩)], .iface 257 (.agg #[.pointer (some ⟨2, 140, none⟩)])]).run Tryz.prog w = .ok (.bool true) w := by kernel_rfl
theorem Tryz.noAs82 (v : Value) (xT : TypeId) (w : World) : (Instr.typeAssert (.iface 140 v) xT 262 true).run Tryz.prog w = .ok (.tuple #[.nilIface, .bool false]) w := run_typeAssert_lacksB Tryz.underlying262 (by kernel_rfl) (by kernel_rfl) v xT w
theorem Tryz.unw82 (v : Value) (xT : TypeId) (w : World) : (Instr.typeAssert (.iface 140 v) xT 265 true).run Tryz.prog w = .ok (.tuple #[.iface 140 v, .bool true]) w := run_typeAssert_hasB Tryz.underlying265 (by kernel_rfl) v xT w
theorem Tryz.methodUnwrap (v : Value) (w : World) : (Go.method 324 140 v "Unwrap").run Tryz.prog w = .ok (230, v) w := by kernel_rfl
end Go.Proofs.YtlogmdldjmkkjaaGreatDoor
