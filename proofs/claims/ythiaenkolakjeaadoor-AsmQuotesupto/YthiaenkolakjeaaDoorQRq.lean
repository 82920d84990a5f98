/-
  The document's Quote.
-/
import Derived.Test.YthiaenkolakjeaaDoorQUn
import Derived.Laws.IdiomStrings
import Derived.Laws.NewBlocks
import Derived.Deep.AppendLies
namespace Go.Proofs.YthiaenkolakjeaaDoor
open Go.RowKit Go.Shelf
set_option linter.unusedVariables false
set_option linter.unusedSimpArgs false
theorem new_cells (w : World) (arr : Array Value) (e : TypeId) : ∀ j z, arr.toList[j]? = some z → (w.alloc (.cells arr e)).cell? ((⟨w.heap.size, 0, none⟩ : Addr).add j) = some z := fun j z hz => by
  rw [Go.WideShapes.add_plain]
  simp only [World.cell?, heap_alloc_new, Nat.zero_add]
  simpa using hz
/-- A row of bytes of one's own, above B. -/
def Gb (B : Nat) (w : World) (l : List UInt8) (v : Value) (wr : World) : Prop := Ro wr 1 v l.length (Lib.byteCells l) ∧ Below B w wr ∧ B ≤ wr.heap.size ∧ ∀ k, v.ownBlock = some k → B ≤ k
theorem Gb.push {B : Nat} {w wr w' : World} {l m : List UInt8} {v v' : Value} {X : Obj} {n : Nat} (h : Gb B w l v wr) (hr : Ro w' 1 v' n (Lib.byteCells l ++ Lib.byteCells m)) (hn : n = l.length + m.length) (hg : (wr.alloc X).grownBy w' v.ownBlock) (hat : v'.ownBlock = v.ownBlock ∨ v'.ownBlock = some (wr.alloc X).heap.size) : Gb B w (l ++ m) v' w' := by
  subst hn
  obtain ⟨h1, h2, h4, h3⟩ := h
  have f : Fr (fun k => v.ownBlock = some k) wr w' := ((Fr.refl _ wr).alloc X).grown hg (fun k e => .inr e)
  have hs := f.size
  refine ⟨by rw [List.length_append]; simpa [Lib.byteCells] using hr, h2.trans (f.below h4 (fun k hk e => by have := h3 k e; omega)), by omega, fun k hk => ?_⟩
  rcases hat with q | q
  · exact h3 k (q ▸ hk)
  · rw [q] at hk; cases hk; simp; omega
theorem wpList_appB {w : World} {ops : Array Oper} {rest : List Oper} {o : Oper} {a : Act} {Q : Exit → Act → World → Prop}
    (hg : o.guard = none) (s x : Operand) (hop : o.op = Op.call { callee := Callee.builtin Builtin.append, args := #[s, x], argTypes := #[26, 26] })
    (v : Value) (l m : List UInt8) (hs : a.eval s = v) (hr : Ro w 1 v l.length (Lib.byteCells l)) (ad : Addr) (c : Nat) (hx : a.eval x = .slice (some ad) m.length c) (hc : ∀ j u, (Lib.byteCells m)[j]? = some u → w.cell? (ad.add j) = some u)
    (h0 : 0 < m.length) (hN : l.length + m.length ≤ 140737488355328)
    (hK : ∀ v' w', Ro w' 1 v' (l.length + m.length) (Lib.byteCells l ++ Lib.byteCells m) → w.grownBy w' v.ownBlock → (v'.ownBlock = v.ownBlock ∨ v'.ownBlock = some w.heap.size) → wpList Tryd.prog ops Q rest (a.put o.dst v') w') :
    wpList Tryd.prog ops Q (o :: rest) a w := by
  obtain ⟨i0, hi0, hz0, hz1, hz2⟩ := info_parts inB
  refine wpList_plain hg fun K hK' => ?_
  obtain ⟨v', w', hrun, r1, r2, r3⟩ := Ro.app (P := Tryd.prog) 26 o.type 5 i0 _ 1 1 Tryd.underlying26 hi0 hz0 hz1 hz2 rfl (by decide) hr ad m.length c (Lib.byteCells m) (by simp [Lib.byteCells]) hc (fun u hu => by simp [Lib.byteCells] at hu; obtain ⟨b, _, rfl⟩ := hu; rfl) h0 (by unfold maxLen; omega) (by omega)
  unfold Oper.wp
  simp [execOp, hop, resolve, invoke, builtin, hs, hx, hrun, Result.andThen]
  exact hK' _ _ (hK v' w' r1 r2 r3)
set_option maxRecDepth 100000 in
theorem digit_any (w : World) (d : Nat) (h : d < 16) : Calls Tryd.prog 14 #[.int .u8 (d : Int)] w fun e w' => e = .returned (.int .u8 ((hx d).toNat : Int)) ∧ w' = w := by
  rw [hx_nat h]
  by_cases hd : d < 10
  · rw [if_pos hd]
    have d1 : (d : Int) < 10 := by omega
    have d2 : IntKind.u8.wrap (48 + (d : Int)) = ((48 + d : Nat) : Int) := by rw [IntKind.wrap_u8]; omega
    go_enter Tryd.func14, Tryd.ntmps14
    go_wp2_with fail
    go_ret
    exact ⟨by simp, rfl⟩
  · rw [if_neg hd]
    have d1 : ¬ (d : Int) < 10 := by omega
    have d2 : IntKind.u8.wrap (97 + (d : Int)) = 97 + (d : Int) := by rw [IntKind.wrap_u8]; omega
    have d3 : IntKind.u8.wrap (97 + (d : Int) - 10) = ((87 + d : Nat) : Int) := by rw [IntKind.wrap_u8]; omega
    go_enter Tryd.func14, Tryd.ntmps14
    go_wp2_with fail
    go_ret
    exact ⟨by simp, rfl⟩
end Go.Proofs.YthiaenkolakjeaaDoor
