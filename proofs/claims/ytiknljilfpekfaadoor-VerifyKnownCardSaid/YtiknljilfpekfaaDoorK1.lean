/-
  A function in the making.
-/
import Derived.Test.YtiknljilfpekfaaDoorVFun
namespace Go.Proofs.YtiknljilfpekfaaDoor
open Go.RowKit
set_option linter.unusedVariables false
set_option linter.unusedSimpArgs false
theorem Tryd.info29 : (Tryd.prog.info? 29).map (fun i => (i.zero, i.size, i.bytes)) = some (some (.agg #[.int .i64 0, .int .i64 0]), 2, 16) := by kernel_rfl
theorem appI {w : World} {ops : Array Oper} {rest : List Oper} {o : Oper} {a : Act} {Q : Exit → Act → World → Prop}
    (hg : o.guard = none) (s x : Operand) (hop : o.op = Op.call { callee := Callee.builtin Builtin.append, args := #[s, x], argTypes := #[22, 22] })
    (v : Value) (n : Nat) (l : List Value) (hs : a.eval s = v) (hr : Ro w 2 v n l) (ad : Addr) (c : Nat) (p : Int × Int) (hx : a.eval x = .slice (some ad) 1 c) (hc : ∀ j u, (enI p)[j]? = some u → w.cell? (ad.add j) = some u)
    (hN : n ≤ 8796093022079)
    (hK : ∀ v' w', Ro w' 2 v' (n + 1) (l ++ enI p) → w.grownBy w' v.ownBlock → (v'.ownBlock = v.ownBlock ∨ v'.ownBlock = some w.heap.size) → wpList Tryd.prog ops Q rest (a.put o.dst v') w') :
    wpList Tryd.prog ops Q (o :: rest) a w := by
  obtain ⟨i0, hi0, hz0, hz1, hz2⟩ := info_parts Tryd.info29
  exact wpList_app hg s x 22 hop 29 i0 _ 2 16 Tryd.underlying22 hi0 hz0 hz1 hz2 rfl (by decide) v n l hs hr ad 1 c (enI p) hx rfl hc (by simp [enI, Value.oneCell']) (by omega) (by unfold maxLen; omega) (by omega) hK
theorem step_appI {w : World} {ops : Array Oper} {o : Oper} {a : Act} {K : Act → World → Prop} {Q : Exit → Act → World → Prop} {E : Prop} (hgd : o.guard = none) (s x : Operand)
    (ho : o.op = .call { callee := .builtin .append, args := #[s, x], argTypes := #[22, 22] }) (v : Value) (n : Nat) (l : List Value) (hs : a.eval s = v) (hr : Ro w 2 v n l) (ad : Addr) (c : Nat) (k : Int × Int) (hx : a.eval x = .slice (some ad) 1 c)
    (hnews : ∀ j u, (enI k)[j]? = some u → w.cell? (ad.add j) = some u) (hN : n ≤ 4398046511103)
    (h : ∀ v' w', Ro w' 2 v' (n + 1) (l ++ enI k) → w.grownBy w' v.ownBlock → (v'.ownBlock = v.ownBlock ∨ v'.ownBlock = some w.heap.size) → K (a.put o.dst v') w') :
    if Region.wanted o (yielded ops a.tmps) = true then Oper.wp Tryd.prog o a w K Q else E := by
  rw [if_pos (by simp [Region.wanted, hgd])]
  obtain ⟨i0, hi0, hz0, hz1, hz2⟩ := info_parts Tryd.info29
  obtain ⟨v', w', hrun, k2, k3, k5⟩ := Ro.app (P := Tryd.prog) 22 o.type 29 i0 _ 2 16 Tryd.underlying22 hi0 hz0 hz1 hz2 rfl (by decide) hr ad 1 c (enI k) rfl hnews (by simp [enI, Value.oneCell']) (by omega) (by unfold maxLen; omega) (by omega)
  unfold Oper.wp
  simp [execOp, ho, resolve, invoke, builtin, hs, hx, hrun, Result.andThen]
  exact h v' w' k2 k3 k5
theorem B5.new {w : World} {x0 x1 x2 x3 x4 : Value} {t : TypeId} {b : Nat} (hb : w.heap.size = b) : Ro (w.alloc (.cells #[x0, x1, x2, x3, x4] t)) 5 (.slice (some ⟨b, 0, none⟩) 1 1) 1 [x0, x1, x2, x3, x4] := by
  subst hb
  exact ⟨rfl, .inr ⟨w.heap.size, 0, 1, #[x0, x1, x2, x3, x4], t, rfl, heap_alloc_new _ _, by omega, by unfold maxLen; omega, by simp, fun j hj => by simp⟩⟩
theorem B5.cells {w : World} {b : Nat} {x0 x1 x2 x3 x4 : Value} (h : Ro w 5 (.slice (some ⟨b, 0, none⟩) 1 1) 1 [x0, x1, x2, x3, x4]) : w.cell? ⟨b, 0, none⟩ = some x0 ∧ w.cell? ⟨b, 1, none⟩ = some x1 ∧ w.cell? ⟨b, 2, none⟩ = some x2 ∧ w.cell? ⟨b, 3, none⟩ = some x3 ∧ w.cell? ⟨b, 4, none⟩ = some x4 := by
  obtain ⟨b', off', c', e, _, _, hb, hc⟩ := h.full (by omega)
  cases e
  have h0 := hc 0 (by omega)
  have h1 := hc 1 (by omega)
  have h2 := hc 2 (by omega)
  have h3 := hc 3 (by omega)
  have h4 := hc 4 (by omega)
  rw [Nat.zero_add] at h0 h1 h2 h3 h4
  exact ⟨h0, h1, h2, h3, h4⟩
theorem B5.put3 {w : World} {b : Nat} {x0 x1 x2 x3 x4 : Value} (h : Ro w 5 (.slice (some ⟨b, 0, none⟩) 1 1) 1 [x0, x1, x2, x3, x4]) (v : Value) : Ro (w.setCell ⟨b, 3, none⟩ v) 5 (.slice (some ⟨b, 0, none⟩) 1 1) 1 [x0, x1, x2, v, x4] := by
  refine (h.sets rfl (o := 0 + 3) (m := 1) (vs := [v]) (ys := [x0, x1, x2, v, x4]) (by omega) (by simp) (by omega) rfl (fun j hj => ?_) (fun j hj q => by omega)).1 |> fun r => by simpa [World.setCells] using r
  have hj5 : j = 0 ∨ j = 1 ∨ j = 2 ∨ j = 3 ∨ j = 4 := by omega
  rcases hj5 with rfl | rfl | rfl | rfl | rfl <;> simp
theorem B5.put4 {w : World} {b : Nat} {x0 x1 x2 x3 x4 : Value} (h : Ro w 5 (.slice (some ⟨b, 0, none⟩) 1 1) 1 [x0, x1, x2, x3, x4]) (v : Value) : Ro (w.setCell ⟨b, 4, none⟩ v) 5 (.slice (some ⟨b, 0, none⟩) 1 1) 1 [x0, x1, x2, x3, v] := by
  refine (h.sets rfl (o := 0 + 4) (m := 1) (vs := [v]) (ys := [x0, x1, x2, x3, v]) (by omega) (by simp) (by omega) rfl (fun j hj => ?_) (fun j hj q => by omega)).1 |> fun r => by simpa [World.setCells] using r
  have hj5 : j = 0 ∨ j = 1 ∨ j = 2 ∨ j = 3 ∨ j = 4 := by omega
  rcases hj5 with rfl | rfl | rfl | rfl | rfl <;> simp
/-- A function in the making: its own box and that of the answer. -/
structure FB (w0 : World) (nm : ByteArray) (v : Value) (l : List (Int × Int)) (W : World) : Prop where
  r0 : Ro W 5 (.slice (some ⟨w0.heap.size, 0, none⟩) 1 1) 1 [.string ⟨#[]⟩, .int .i64 0, .int .i64 0, .slice none 0 0, .slice none 0 0]
  c : Ro W 5 (.slice (some ⟨w0.heap.size + 1, 0, none⟩) 1 1) 1 [.string nm, .int .i64 0, .int .i64 0, v, .slice none 0 0]
  hr : Ro W 2 v l.length (flt enI l)
  ho : ∀ k, v.ownBlock = some k → w0.heap.size + 2 ≤ k
  bl : Below w0.heap.size w0 W
section
variable {w0 W Y : World} {nm : ByteArray} {v : Value} {l : List (Int × Int)}
theorem FB.lt (h : FB w0 nm v l W) : w0.heap.size + 1 < W.heap.size := World.block_lt_of_cell? _ _ (B5.cells h.c).1
theorem FB.keep (h : FB w0 nm v l W) (k : Below W.heap.size W Y) : FB w0 nm v l Y := by
  have f : Fr (fun _ => False) W Y := Fr.of_below k
  exact ⟨h.r0.fr f (fun _ _ e => e), h.c.fr f (fun _ _ e => e), h.hr.fr f (fun _ _ e => e), h.ho, h.bl.trans (k.mono h.bl.size)⟩
theorem FB.first (w0 : World) (nm : ByteArray) {t : TypeId} : FB w0 nm (.slice none 0 0) [] ((w0.alloc (.cells #[.string ⟨#[]⟩, .int .i64 0, .int .i64 0, .slice none 0 0, .slice none 0 0] t)).alloc (.cells #[.string nm, .int .i64 0, .int .i64 0, .slice none 0 0, .slice none 0 0] t)) :=
  ⟨(B5.new rfl).fr (S := fun _ => False) ((Fr.refl _ _).alloc _) (fun _ _ e => e), B5.new (by simp), by simpa [flt] using Ro.nil _ _, fun k hk => by simp [Value.ownBlock] at hk, ((Below.refl _ w0).alloc (Nat.le_refl _) _).alloc (by simp) _⟩
theorem FB.boxes {o : Obj} (h : FB w0 nm v l W) (hg : (W.alloc o).grownBy Y v.ownBlock) : Ro Y 5 (.slice (some ⟨w0.heap.size, 0, none⟩) 1 1) 1 [.string ⟨#[]⟩, .int .i64 0, .int .i64 0, .slice none 0 0, .slice none 0 0] ∧ Ro Y 5 (.slice (some ⟨w0.heap.size + 1, 0, none⟩) 1 1) 1 [.string nm, .int .i64 0, .int .i64 0, v, .slice none 0 0] := by
  have fy : Fr (fun k => v.ownBlock = some k) W Y := ((Fr.refl _ W).alloc o).grown hg (fun k e => .inr e)
  exact ⟨h.r0.fr fy (fun k hk e => by have := h.ho k e; simp [Value.ownBlock] at hk; omega), h.c.fr fy (fun k hk e => by have := h.ho k e; simp [Value.ownBlock] at hk; omega)⟩
theorem FB.push {p : Int × Int} {v' : Value} {o : Obj} (h : FB w0 nm v l W) (hr : Ro Y 2 v' (l.length + 1) (flt enI l ++ enI p)) (hg : (W.alloc o).grownBy Y v.ownBlock) (hat : v'.ownBlock = v.ownBlock ∨ v'.ownBlock = some (W.heap.size + 1)) :
    Y.cell? ⟨w0.heap.size + 1, 3, none⟩ = some v ∧ Y.frozen? ⟨w0.heap.size + 1, 3, none⟩ = false ∧ Below w0.heap.size w0 Y ∧ Hid (FB w0 nm v' (l ++ [p]) (Y.setCell ⟨w0.heap.size + 1, 3, none⟩ v')) := by
  have fy : Fr (fun k => v.ownBlock = some k) W Y := ((Fr.refl _ W).alloc o).grown hg (fun k e => .inr e)
  have fs : Fr (fun k => k = w0.heap.size + 1) Y (Y.setCell ⟨w0.heap.size + 1, 3, none⟩ v') := (Fr.refl (fun k => k = w0.heap.size + 1) Y).cellset _ 3 _ rfl
  have lt := h.lt
  have cY := h.c.fr fy (fun k hk e => by have := h.ho k e; simp [Value.ownBlock] at hk; omega)
  have rY := h.r0.fr fy (fun k hk e => by have := h.ho k e; simp [Value.ownBlock] at hk; omega)
  have bY := h.bl.trans (fy.below h.bl.size (fun k hk e => by have := h.ho k e; omega))
  have ho' : ∀ k, v'.ownBlock = some k → w0.heap.size + 2 ≤ k := fun k hk => by
    rcases hat with q | q
    · exact h.ho k (q ▸ hk)
    · rw [q] at hk
      cases hk
      omega
  exact ⟨(B5.cells cY).2.2.2.1, cY.free rfl 3, bY, ⟨rY.fr fs (fun k hk e => by simp [Value.ownBlock] at hk; omega), B5.put3 cY v', by rw [List.length_append, flt_append, flt_one]; exact hr.fr fs (fun k hk e => by have := ho' k hk; omega), ho', bY.trans (fs.below bY.size (fun k hk e => by omega))⟩⟩
end
/-- A function that was made: its code is its own, it has no handlers. -/
def FnG (w : World) (nm : ByteArray) (l : List (Int × Int)) (v : Value) (w' : World) : Prop :=
  ∃ cv, v = .agg #[.string nm, .int .i64 0, .int .i64 0, cv, .slice none 0 0] ∧ Ro w' 2 cv l.length (flt enI l) ∧ (∀ k, cv.ownBlock = some k → w.heap.size + 2 ≤ k) ∧ Below w.heap.size w w'
theorem FB.end {w0 W W' : World} {nm : ByteArray} {v : Value} {l : List (Int × Int)} (h : FB w0 nm v l W) (f : Fr (fun k => k = w0.heap.size) W W') : FnG w0 nm l (.agg #[.string nm, .int .i64 0, .int .i64 0, v, .slice none 0 0]) W' :=
  ⟨v, rfl, h.hr.fr f (fun k hk e => by have := h.ho k hk; omega), h.ho, h.bl.trans (f.below h.bl.size (fun k hk e => by omega))⟩
theorem fr5 (W : World) (b : Nat) (x0 x1 x2 x3 x4 : Value) : Fr (fun k => k = b) W (((((W.setCell ⟨b, 0, none⟩ x0).setCell ⟨b, 1, none⟩ x1).setCell ⟨b, 2, none⟩ x2).setCell ⟨b, 3, none⟩ x3).setCell ⟨b, 4, none⟩ x4) :=
  (((((Fr.refl (fun k => k = b) W).cellset b 0 _ rfl).cellset b 1 _ rfl).cellset b 2 _ rfl).cellset b 3 _ rfl).cellset b 4 _ rfl
end Go.Proofs.YtiknljilfpekfaaDoor
