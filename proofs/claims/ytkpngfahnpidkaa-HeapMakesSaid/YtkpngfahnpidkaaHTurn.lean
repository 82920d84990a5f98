/-
  An object's lists are laid anew.
-/
import Derived.Test.YtkpngfahnpidkaaHNamed
import Derived.Deep.RegionHeld3
namespace Go.Proofs.Ytkpngfahnpidkaa
open Go.RowKit
set_option linter.unusedVariables false

/-- The place of an object's items among its cells. -/
def OD.ci (o : OD) : Nat := if o.k = 6 then 0 else 1
theorem OD.kinds {o : OD} {w : World} (h : o.ok w) : o.k = 6 ∨ o.k = 7 ∨ o.k = 8 ∨ o.k = 9 := by have := h.kind; omega
theorem OD.cell_iv {o : OD} {w : World} (h : o.ok w) : w.cell? ⟨o.b, o.ci, none⟩ = some o.iv := by
  rcases OD.kinds h with q | q | q | q <;> exact h.cell o.ci o.iv (by simp [OD.cells, OD.ci, q])
theorem OD.cells_iv {o : OD} {w : World} (h : o.ok w) (v : Value) (l : List (Int × Int)) : ({ o with iv := v, its := l } : OD).cells = o.cells.set o.ci v := by
  rcases OD.kinds h with q | q | q | q <;> simp [OD.cells, OD.ci, q]

section
variable {w w' : World} {h : Nat} {bud sp : Int} {ov : Value} {os : List OD}
theorem Hp.setIv (H : Hp w h bud sp ov os) {i : Nat} {o : OD} (ho : os[i]? = some o) (f : Fr (fun k => o.iv.ownBlock = some k) w w') {v : Value} {l : List (Int × Int)}
    (hr : Ro w' 2 v l.length (flat l)) (hv : v.ownBlock = o.iv.ownBlock ∨ ∀ k, v.ownBlock = some k → w.heap.size ≤ k) :
    w'.cell? ⟨o.b, o.ci, none⟩ = some o.iv ∧ w'.frozen? ⟨o.b, o.ci, none⟩ = false ∧ Hp (w'.setCell ⟨o.b, o.ci, none⟩ v) h bud sp ov (os.set i { o with iv := v, its := l }) ∧
      Fr (Fts h ov os) w (w'.setCell ⟨o.b, o.ci, none⟩ v) ∧ ∀ k, Fts h ov (os.set i { o with iv := v, its := l }) k → Fts h ov os k ∨ w.heap.size ≤ k := by
  have hok := H.ok i o ho
  obtain ⟨n1, n2, n3⟩ := H.one ho
  have hb : o.b < w.heap.size := hok.lt _ (.inl rfl)
  have kc : ∀ j, w'.cell? ⟨o.b, j, none⟩ = w.cell? ⟨o.b, j, none⟩ := fun j => f.cell (a := ⟨o.b, j, none⟩) hb n1
  have kf : ∀ j, w'.frozen? ⟨o.b, j, none⟩ = false := fun j => (f.frozen (a := ⟨o.b, j, none⟩) hb n1).trans (hok.free j)
  have hc : w'.cell? ⟨o.b, o.ci, none⟩ = some o.iv := (kc _).trans (OD.cell_iv hok)
  have hvb : v.ownBlock ≠ some o.b := fun e => by
    rcases hv with q | q
    · exact n1 (q ▸ e)
    · have := q _ e; omega
  have f2 : Fr (fun k => k = o.b) w' (w'.setCell ⟨o.b, o.ci, none⟩ v) := (Fr.refl (fun k => k = o.b) w').setCell ⟨o.b, o.ci, none⟩ (.inr rfl) _
  have fa : Fr o.mine w (w'.setCell ⟨o.b, o.ci, none⟩ v) := (f.mono (fun k _ e => .inr (.inl e))).trans (f2.mono (fun k _ e => .inl e))
  have hok' : ({ o with iv := v, its := l } : OD).ok (w'.setCell ⟨o.b, o.ci, none⟩ v) := by
    refine ⟨hok.kind, fun j u hu => ?_, fun j => by rw [World.frozen?_setCell]; exact kf j, hr.fr f2 (fun k hk e => hvb (e ▸ hk)), (hok.keys.fr f (fun k hk e => n3 k e hk)).fr f2 (fun k hk e => n2 (e ▸ hk)), hok.plain⟩
    rw [OD.cells_iv hok] at hu
    by_cases e : j = o.ci
    · subst e
      have hl : o.ci < o.cells.length := by
        have := (List.getElem?_eq_some_iff.1 hu).1
        simpa using this
      rw [List.getElem?_set_self hl] at hu
      cases hu
      exact World.cell?_setCell_same _ _ _ hc
    · rw [List.getElem?_set_ne (fun q => e q.symm)] at hu
      rw [World.cell?_setCell_other _ _ _ _ (by simp)]
      exact (kc j).trans (hok.cell j u hu)
  obtain ⟨a1, a2, a3⟩ := H.turn (o' := { o with iv := v, its := l }) ho fa rfl rfl hok' hv (.inl rfl) (fun k hk e => by
    rcases hv with q | q
    · exact n3 k (q ▸ hk) e
    · have h1 := q k hk
      have h2 := hok.lt k (.inr (.inr e))
      omega)
  exact ⟨hc, kf _, a1, a2, a3⟩
end
theorem Try.info33 : (Try.prog.info? 33).map (fun i => (i.zero, i.size, i.bytes)) = some (some (.agg #[.int .i64 0, .int .i64 0]), 2, 16) := by kernel_rfl
theorem two_new' (w : World) (u v : Value) (e : TypeId) : ∀ j z, [u, v][j]? = some z → (w.alloc (.cells #[u, v] e)).cell? ((⟨w.heap.size, 0, none⟩ : Addr).add j) = some z := fun j z hz => by
  obtain ⟨b0, b1⟩ := two_new w u v e
  rw [Go.WideShapes.add_plain]
  have hj : j < 2 := (List.getElem?_eq_some_iff.1 hz).1
  match j, hj with
  | 0, _ => rw [show 0 + 0 = 0 from rfl, b0]; simpa using hz
  | 1, _ => rw [show 0 + 1 = 1 from rfl, b1]; simpa using hz
/-- append of one value, in a region. -/
theorem step_app {w : World} {ops : Array Oper} {o : Oper} {a : Act} {K : Act → World → Prop} {Q : Exit → Act → World → Prop} {E : Prop} (hgd : o.guard = none) (s x : Operand)
    (ho : o.op = .call { callee := .builtin .append, args := #[s, x], argTypes := #[36, 36] }) (v : Value) (l : List (Int × Int)) (hs : a.eval s = v) (hr : Ro w 2 v l.length (flat l)) (ad : Addr) (c : Nat) (k n : Int) (hx : a.eval x = .slice (some ad) 1 c)
    (hnews : ∀ j u, [Value.int .i64 k, .int .i64 n][j]? = some u → w.cell? (ad.add j) = some u) (hN : l.length ≤ 8000000000000)
    (h : ∀ v' w', Ro w' 2 v' (l ++ [(k, n)]).length (flat (l ++ [(k, n)])) → w.grownBy w' v.ownBlock → (v'.ownBlock = v.ownBlock ∨ v'.ownBlock = some w.heap.size) → K (a.put o.dst v') w') :
    if Region.wanted o (yielded ops a.tmps) = true then Oper.wp Try.prog o a w K Q else E := by
  rw [if_pos (by simp [Region.wanted, hgd])]
  obtain ⟨i0, hi0, hz0, hz1, hz2⟩ := info_parts Try.info33
  obtain ⟨v', w', hrun, k2, k3, k5⟩ := Ro.app (P := Try.prog) 36 o.type 33 i0 _ 2 16 Try.underlying36 hi0 hz0 hz1 hz2 rfl (by decide) hr ad 1 c [.int .i64 k, .int .i64 n] rfl hnews (by simp [Value.oneCell']) (by omega) (by unfold maxLen; omega) (by omega)
  unfold Oper.wp
  simp [execOp, ho, resolve, invoke, builtin, hs, hx, hrun, Result.andThen]
  exact h v' w' (by rw [flat_append, List.length_append]; exact k2) k3 k5
end Go.Proofs.Ytkpngfahnpidkaa
