/-
  Laws for Write.
-/
import Derived.Test.YtlkcjimkgebeiaaDoorWMath
namespace Go.Proofs.YtlkcjimkgebeiaaDoor
open Go.RowKit

theorem Tryd.elem22 : Tryd.prog.elem 22 = 5 := by kernel_rfl
/-- What is left of a slice behind its first k. -/
def cutV (b off n cap k : Nat) : Value := .slice (some (if cap = k then ⟨b, off, none⟩ else ⟨b, off + k, none⟩)) (n - k) (cap - k)
theorem run_cut (b off n cap k : Nat) (hk : k ≤ n) (w : World) : (Instr.sliceAt 22 (.slice (some ⟨b, off, none⟩) n cap) (some (.int .i64 (k : Int))) none none).run Tryd.prog w = .ok (cutV b off n cap k) w := by
  have hu : Tryd.prog.underlying 22 = some (.slice (Tryd.prog.elem 22)) := by rw [Tryd.elem22]; exact Tryd.underlying22
  have h := run_slice_l (P := Tryd.prog) w 22 (some ⟨b, off, none⟩) n cap hu .i64 (k : Int) (by omega) (by omega)
  rw [Tryd.elem22, Tryd.sizeOf5, Result.andThen_ok] at h
  have h2 : (Instr.sliceAt 22 (.slice (some ⟨b, off, none⟩) n cap) (some (.int .i64 (k : Int))) none none).run Tryd.prog w = (Instr.slice 22 (.slice (some ⟨b, off, none⟩) n cap) (some (.int .i64 (k : Int))) none none).run Tryd.prog w := by
    simp [Instr.sliceAt]
  rw [h2, h]
  unfold sliced cutV
  rw [Int.toNat_natCast, Nat.mul_one]
  by_cases hc : cap = k
  · rw [if_pos hc, if_pos hc]
  · rw [if_neg hc, if_neg hc, Option.map_some, addr_add]
theorem cut_rd {w : World} {b off n cap : Nat} {bs : List Int} (h : Rd w (.slice (some ⟨b, off, none⟩) n cap) bs) (k : Nat) (hk : k ≤ bs.length) : Rd w (cutV b off n cap k) (bs.drop k) := by
  rcases h with ⟨e, _⟩ | ⟨b', off', cap', e, h1, h2, h3, h4⟩
  · cases e
  · simp only [Value.slice.injEq, Option.some.injEq, Addr.mk.injEq] at e
    obtain ⟨⟨rfl, rfl, _⟩, rfl, rfl⟩ := e
    have hl : (bs.drop k).length = bs.length - k := List.length_drop
    unfold cutV
    by_cases hc : cap = k
    · have h0 : bs.drop k = [] := List.drop_of_length_le (by omega)
      rw [if_pos hc, h0]
      refine .inr ⟨b, off, cap - k, by rw [show bs.length - k = 0 by omega]; rfl, by simp, by omega, h3, fun i hi => by simp at hi⟩
    · rw [if_neg hc]
      refine .inr ⟨b, off + k, cap - k, by rw [hl], by rw [hl]; omega, by omega, h3, fun i hi => ?_⟩
      rw [hl] at hi
      rw [Nat.add_assoc, h4 (k + i) (by omega), List.getD, List.getD, List.getElem?_drop]
theorem wpList_slice_l {P : Program} {ops : Array Oper} {rest : List Oper} {op : Oper} {a : Act} {w : World} {Q : Exit → Act → World → Prop} (hgd : op.guard = none) (t : TypeId) (x l : Operand) (ho : op.op = .slice t x (some l) none none)
    (xv lv v : Value) (hx : a.eval x = xv) (hl : a.eval l = lv) (hb : (Instr.sliceAt t xv (some lv) none none).run P w = .ok v w)
    (h : wpList P ops Q rest (a.put op.dst v) w) : wpList P ops Q (op :: rest) a w := by
  refine wpList_plain hgd fun K hK => ?_
  unfold Oper.wp execOp
  simp only [ho, hx, hl, Option.map_some, Option.map_none, Sem.run_bind, hb, Result.andThen_ok, Sem.run_pure]
  exact hK _ _ h
theorem stepW_store {P : Program} {ops : Array Oper} {op : Oper} {a : Act} {w : World} {K : Act → World → Prop} {Q : Exit → Act → World → Prop} {E : Prop} (hgd : op.guard = none) (ty : TypeId) (x y : Operand) (ho : op.op = .store ty x y)
    (b o : Nat) (hx : a.eval x = .pointer (some ⟨b, o, none⟩)) (k : IntKind) (ys : List Int) (n : Nat) (hy : a.eval y = .agg (Ar k ys)) (hn : ys.length = n)
    (ht : w.there b o n) (hi : (P.info? ty).map (·.size) = some n)
    (h : K (a.put op.dst undef) (w.setCells b o (ys.map (Value.int k)))) : if Region.wanted op (yielded ops a.tmps) = true then Oper.wp P op a w K Q else E := by
  rw [if_pos (by simp [Region.wanted, hgd])]
  exact wp_store_mid ty x y ho b o (Ar k ys) hx hy (by rw [Ar_size, hn]; exact ht) (by rw [hi, Ar_size, hn]) (Ar_one k ys) h
theorem stepW_load {P : Program} {ops : Array Oper} {op : Oper} {a : Act} {w : World} {K : Act → World → Prop} {Q : Exit → Act → World → Prop} {E : Prop} (hgd : op.guard = none) (ty : TypeId) (x : Operand) (ho : op.op = .load ty x)
    (b o : Nat) (hx : a.eval x = .pointer (some ⟨b, o, none⟩)) (k : IntKind) (xs : List Int) (d : TypeDesc) (n : Nat) (hc : Seg w b o k xs) (hn : xs.length = n)
    (hu : P.underlying ty = some d) (hd : d.isRow = true) (hi : (P.info? ty).map (·.size) = some n)
    (h : K (a.put op.dst (.agg (Ar k xs))) w) : if Region.wanted op (yielded ops a.tmps) = true then Oper.wp P op a w K Q else E := by
  rw [if_pos (by simp [Region.wanted, hgd])]
  exact wp_load_mid ty x ho b o hx (xs.map (Value.int k)) d hc.1 hu hd (by rw [hi, List.length_map, hn]) h
theorem run_sl49 (p h : Nat) (hh : h < 64) (w : World) : (Instr.sliceAt 49 (.pointer (some ⟨p, 8, none⟩)) (some (.int .i64 (h : Int))) none none).run Tryd.prog w = .ok (.slice (some ⟨p, 8 + h, none⟩) (64 - h) (64 - h)) w := by
  have e1 : Tryd.prog.arrayLen 49 = 64 := by kernel_rfl
  have e2 : Tryd.prog.elem 49 = 5 := by kernel_rfl
  have hu : Tryd.prog.underlying 49 = some (.array (Tryd.prog.arrayLen 49) (Tryd.prog.elem 49)) := by rw [e1, e2]; exact Tryd.underlying49
  have h := run_sliceAt_array_l (P := Tryd.prog) w 49 ⟨p, 8, none⟩ hu .i64 (h : Int) (by omega) (by rw [e1]; omega)
  rw [e1, e2, Tryd.sizeOf5, Result.andThen_ok] at h
  rw [h]
  unfold slicedAt
  rw [Int.toNat_natCast, Nat.mul_one, if_neg (by omega), addr_add]
theorem yieldsIf_sl49 {ops : Array Oper} {S : World → Prop} {op : Oper} {a : Act} (hw : Region.wanted op (yielded ops a.tmps) = true) (x l : Operand) (ho : op.op = .slice 49 x (some l) none none)
    (p h : Nat) (hx : a.eval x = .pointer (some ⟨p, 8, none⟩)) (hl : a.eval l = .int .i64 (h : Int)) (hh : h < 64) : YieldsIf Tryd.prog ops S op (.slice (some ⟨p, 8 + h, none⟩) (64 - h) (64 - h)) a :=
  .inl ⟨hw, fun w _ => by
    unfold execOp
    simp only [ho, hx, hl, Option.map_some, Option.map_none, Sem.run_bind, run_sl49 p h hh w, Result.andThen_ok, Sem.run_pure]⟩
end Go.Proofs.YtlkcjimkgebeiaaDoor
