/-
  A program in memory of one's own, that may be written over.
-/
import Derived.Test.YtlogmdldjmkkjaaGreatDoorFn
import Derived.Deep.RegionHeld3
namespace Go.Proofs.YtlogmdldjmkkjaaGreatDoor
open Go.RowKit
set_option linter.unusedVariables false
set_option linter.unusedSimpArgs false
set_option maxRecDepth 100000
theorem Tryz.info112o : (Tryz.prog.info? 112).map (fun i => (i.zero, i.size, i.bytes)) = some (some (.agg #[.int .i64 0, .int .i64 0, .int .i64 0, .int .i64 0]), 4, 32) := by kernel_rfl
theorem Tryz.info92o : (Tryz.prog.info? 92).map (fun i => (i.zero, i.size, i.bytes)) = some (some (.agg #[.int .i64 0, .int .i64 0]), 2, 16) := by kernel_rfl
theorem appI {w : World} {ops : Array Oper} {rest : List Oper} {o : Oper} {a : Act} {Q : Exit → Act → World → Prop}
    (hg : o.guard = none) (s x : Operand) (hop : o.op = Op.call { callee := Callee.builtin Builtin.append, args := #[s, x], argTypes := #[70, 70] })
    (v : Value) (l : List (Int × Int)) (hs : a.eval s = v) (hr : Ro w 2 v l.length (flt enI l)) (ad : Addr) (c : Nat) (p : Int × Int) (hx : a.eval x = .slice (some ad) 1 c) (hc : ∀ j u, (enI p)[j]? = some u → w.cell? (ad.add j) = some u)
    (hN : l.length ≤ 8796093022079)
    (hK : ∀ v' w', Ro w' 2 v' (l.length + 1) (flt enI l ++ enI p) → w.grownBy w' v.ownBlock → (v'.ownBlock = v.ownBlock ∨ v'.ownBlock = some w.heap.size) → wpList Tryz.prog ops Q rest (a.put o.dst v') w') :
    wpList Tryz.prog ops Q (o :: rest) a w := by
  obtain ⟨i0, hi0, hz0, hz1, hz2⟩ := info_parts Tryz.info92o
  exact wpList_app hg s x 70 hop 92 i0 _ 2 16 Tryz.underlying70 hi0 hz0 hz1 hz2 rfl (by decide) v l.length (flt enI l) hs hr ad 1 c (enI p) hx rfl hc (by simp [enI, Value.oneCell']) (by omega) (by unfold maxLen; omega) (by omega) hK
theorem appH {w : World} {ops : Array Oper} {rest : List Oper} {o : Oper} {a : Act} {Q : Exit → Act → World → Prop}
    (hg : o.guard = none) (s x : Operand) (hop : o.op = Op.call { callee := Callee.builtin Builtin.append, args := #[s, x], argTypes := #[71, 71] })
    (v : Value) (l : List (Hd)) (hs : a.eval s = v) (hr : Ro w 4 v l.length (flt enH l)) (ad : Addr) (c : Nat) (p : Hd) (hx : a.eval x = .slice (some ad) 1 c) (hc : ∀ j u, (enH p)[j]? = some u → w.cell? (ad.add j) = some u)
    (hN : l.length ≤ 4398046511103)
    (hK : ∀ v' w', Ro w' 4 v' (l.length + 1) (flt enH l ++ enH p) → w.grownBy w' v.ownBlock → (v'.ownBlock = v.ownBlock ∨ v'.ownBlock = some w.heap.size) → wpList Tryz.prog ops Q rest (a.put o.dst v') w') :
    wpList Tryz.prog ops Q (o :: rest) a w := by
  obtain ⟨i0, hi0, hz0, hz1, hz2⟩ := info_parts Tryz.info112o
  exact wpList_app hg s x 71 hop 112 i0 _ 4 32 Tryz.underlying71 hi0 hz0 hz1 hz2 rfl (by decide) v l.length (flt enH l) hs hr ad 1 c (enH p) hx rfl hc (by simp [enH, Value.oneCell']) (by omega) (by unfold maxLen; omega) (by omega) hK
theorem box2 {w wr : World} {u v : Value} {e : TypeId} (h : Below (w.heap.size + 1) (w.alloc (.cells #[u, v] e)) wr) : wr.cell? ⟨w.heap.size, 0, none⟩ = some u ∧ wr.cell? ⟨w.heap.size, 1, none⟩ = some v ∧ Below w.heap.size w wr ∧ w.heap.size < wr.heap.size := by
  have hs := h.size
  simp only [World.size_alloc] at hs
  have n0 := new_cells w #[u, v] e 0 u rfl
  have n1 := new_cells w #[u, v] e 1 v rfl
  rw [Go.WideShapes.add_plain] at n0 n1
  exact ⟨(h.cell (p := ⟨w.heap.size, 0, none⟩) (Nat.lt_succ_self _)).trans n0, (h.cell (p := ⟨w.heap.size, 1, none⟩) (Nat.lt_succ_self _)).trans n1, ((Below.refl _ w).alloc (Nat.le_refl _) _).trans (h.mono (Nat.le_succ _)), by omega⟩
theorem Below.drawnAlloc {B : Nat} {w : World} (h : B ≤ w.heap.size) (X : Obj) : Below B w (w.drew.alloc X) := (fun k : Below B w (w.alloc X) => ⟨k.os, k.tape, k.output, k.size, k.block⟩) ((Below.refl _ w).alloc h X)
theorem Gx.undrew {T : Type} {w w' : World} {sz : Nat} {en : T → List Value} {l : List T} {v : Value} (h : Gx w.drew sz en l v w') : Gx w sz en l v w' := ⟨h.1, ⟨h.2.1.os, h.2.1.tape, h.2.1.output, h.2.1.size, h.2.1.block⟩, h.2.2⟩
theorem Below.heldIn {B : Nat} {w a : World} (h : Below B w a) {p : Addr} {v : Value} (hp : p.block < B) (hc : w.cell? p = some v) : a.cell? p = some v := (h.cell hp).trans hc
/-- A program in the making: its box (block q), the rows of its constants and of its functions, in memory above B. -/
structure LP (w : World) (B q : Nat) (cs : List Cn) (xs : List Fv) (cv fv : Value) (wr : World) : Prop where
  below : Below B w wr
  hq : B ≤ q
  box : wr.heap[q]? = some (.cells #[cv, fv] 25 (0, 0))
  co : Ro wr 3 cv cs.length (flt enC cs)
  fo : Ro wr 5 fv xs.length (flt enF xs)
  cb : ∀ k, cv.ownBlock = some k → q < k
  fb : ∀ k, fv.ownBlock = some k → q < k
  ne : ∀ k, cv.ownBlock = some k → fv.ownBlock ≠ some k
section
variable {w wr : World} {B q : Nat} {cs : List Cn} {xs : List Fv} {cv fv : Value}
theorem LP.qlt (h : LP w B q cs xs cv fv wr) : q < wr.heap.size := (Array.getElem?_eq_some_iff.1 h.box).1
theorem LP.cells (h : LP w B q cs xs cv fv wr) : wr.cell? ⟨q, 0, none⟩ = some cv ∧ wr.cell? ⟨q, 1, none⟩ = some fv ∧ ∀ o, wr.frozen? ⟨q, o, none⟩ = false := by
  refine ⟨by simp [World.cell?, h.box], by simp [World.cell?, h.box], fun o => by simp [World.frozen?, h.box]⟩
/-- New blocks alone. -/
theorem LP.keep {w' : World} (h : LP w B q cs xs cv fv wr) (f : Below wr.heap.size wr w') : LP w B q cs xs cv fv w' := by
  have hb := h.below.size
  have hs := h.hq
  have hq := h.qlt
  refine ⟨h.below.trans (f.mono (by omega)), hs, (f.block q hq).trans h.box, h.co.keep (fun g hg => f.block g (h.co.lt g hg)), h.fo.keep (fun g hg => f.block g (h.fo.lt g hg)), h.cb, h.fb, h.ne⟩
theorem LP.pushC (h : LP w B q cs xs cv fv wr) {X : Obj} {v' : Value} {w5 : World} {c : Cn} {m : Nat} (hr : Ro w5 3 v' m (flt enC cs ++ enC c)) (hm : m = cs.length + 1) (hg : (wr.alloc X).grownBy w5 cv.ownBlock) (hat : v'.ownBlock = cv.ownBlock ∨ v'.ownBlock = some (wr.alloc X).heap.size) :
    w5.cell? ⟨q, 0, none⟩ = some cv ∧ w5.frozen? ⟨q, 0, none⟩ = false ∧ Fr (fun k => cv.ownBlock = some k) wr w5 ∧ Hid (Fr (fun k => cv.ownBlock = some k ∨ k = q) wr (w5.setCell ⟨q, 0, none⟩ v')) ∧ Hid (LP w B q (cs ++ [c]) xs v' fv (w5.setCell ⟨q, 0, none⟩ v')) := by
  subst hm
  have hq := h.qlt
  have f : Fr (fun k => cv.ownBlock = some k) wr w5 := ((Fr.refl _ wr).alloc X).grown hg (fun k e => .inr e)
  have nq : ¬ cv.ownBlock = some q := fun e => by have := h.cb q e; omega
  have hbx := (f.block q hq nq).trans h.box
  have f2 : Fr (fun k => cv.ownBlock = some k ∨ k = q) wr (w5.setCell ⟨q, 0, none⟩ v') := (f.mono (fun k _ e => .inl e)).setCell ⟨q, 0, none⟩ (.inr (.inr rfl)) v'
  have hn5 : ∀ k, v'.ownBlock = some k → q < k := fun k hk => by
    rcases hat with e | e
    · exact h.cb k (e ▸ hk)
    · rw [e] at hk; cases hk; simp; omega
  refine ⟨by simp [World.cell?, hbx], by simp [World.frozen?, hbx], f, f2, ?_⟩
  refine ⟨h.below.trans (f2.below (by have := h.hq; omega) (fun k hk e => by
      have := h.hq
      rcases e with e | e
      · have := h.cb k e; omega
      · omega)), h.hq, ?_, ?_, ?_, hn5, h.fb, ?_⟩
  · rw [setCell_block hbx]; rfl
  · rw [List.length_append, flt_append, flt_one]
    exact hr.keep (fun g hg => Below.heap_setCell _ _ _ _ (fun e => by have := hn5 g hg; simp at e; omega))
  · refine h.fo.keep (fun g hg => ?_)
    have e1 := h.fb g hg
    rw [Below.heap_setCell _ _ _ _ (fun e => by simp at e; omega)]
    exact f.block g (h.fo.lt g hg) (fun e => h.ne g e hg)
  · intro k hk
    rcases hat with e | e
    · exact h.ne k (e ▸ hk)
    · rw [e] at hk; cases hk
      intro e2
      have := h.fo.lt _ e2
      simp at this; omega
theorem LP.pushF (h : LP w B q cs xs cv fv wr) {X : Obj} {v' : Value} {w5 : World} {c : Fv} {m : Nat} (hr : Ro w5 5 v' m (flt enF xs ++ enF c)) (hm : m = xs.length + 1) (hg : (wr.alloc X).grownBy w5 fv.ownBlock) (hat : v'.ownBlock = fv.ownBlock ∨ v'.ownBlock = some (wr.alloc X).heap.size) :
    w5.cell? ⟨q, 1, none⟩ = some fv ∧ w5.frozen? ⟨q, 1, none⟩ = false ∧ Fr (fun k => fv.ownBlock = some k) wr w5 ∧ Hid (Fr (fun k => fv.ownBlock = some k ∨ k = q) wr (w5.setCell ⟨q, 1, none⟩ v')) ∧ Hid (LP w B q cs (xs ++ [c]) cv v' (w5.setCell ⟨q, 1, none⟩ v')) := by
  subst hm
  have hq := h.qlt
  have f : Fr (fun k => fv.ownBlock = some k) wr w5 := ((Fr.refl _ wr).alloc X).grown hg (fun k e => .inr e)
  have nq : ¬ fv.ownBlock = some q := fun e => by have := h.fb q e; omega
  have hbx := (f.block q hq nq).trans h.box
  have f2 : Fr (fun k => fv.ownBlock = some k ∨ k = q) wr (w5.setCell ⟨q, 1, none⟩ v') := (f.mono (fun k _ e => .inl e)).setCell ⟨q, 1, none⟩ (.inr (.inr rfl)) v'
  have hn5 : ∀ k, v'.ownBlock = some k → q < k := fun k hk => by
    rcases hat with e | e
    · exact h.fb k (e ▸ hk)
    · rw [e] at hk; cases hk; simp; omega
  refine ⟨by simp [World.cell?, hbx], by simp [World.frozen?, hbx], f, f2, ?_⟩
  refine ⟨h.below.trans (f2.below (by have := h.hq; omega) (fun k hk e => by
      have := h.hq
      rcases e with e | e
      · have := h.fb k e; omega
      · omega)), h.hq, ?_, ?_, ?_, h.cb, hn5, ?_⟩
  · rw [setCell_block hbx]; rfl
  · refine h.co.keep (fun g hg => ?_)
    have e1 := h.cb g hg
    rw [Below.heap_setCell _ _ _ _ (fun e => by simp at e; omega)]
    exact f.block g (h.co.lt g hg) (fun e => h.ne g hg e)
  · rw [List.length_append, flt_append, flt_one]
    exact hr.keep (fun g hg => Below.heap_setCell _ _ _ _ (fun e => by have := hn5 g hg; simp at e; omega))
  · intro k hk e2
    rcases hat with e | e
    · exact h.ne k hk (e ▸ e2)
    · rw [e] at e2; cases e2
      have := h.co.lt _ hk
      simp at this; omega
end
theorem Tryz.info69o : (Tryz.prog.info? 69).map (fun i => (i.zero, i.size, i.bytes)) = some (some (.agg #[.int .i64 0, .int .i64 0, .string ByteArray.empty]), 3, 32) := by kernel_rfl
theorem Tryz.info73o : (Tryz.prog.info? 73).map (fun i => (i.zero, i.size, i.bytes)) = some (some (.agg #[.string ByteArray.empty, .int .i64 0, .int .i64 0, .slice none 0 0, .slice none 0 0]), 5, 80) := by kernel_rfl
/-- append of one thing, in a region. -/
theorem step_appC {w : World} {ops : Array Oper} {o : Oper} {a : Act} {K : Act → World → Prop} {Q : Exit → Act → World → Prop} {E : Prop} (hgd : o.guard = none) (s x : Operand)
    (ho : o.op = .call { callee := .builtin .append, args := #[s, x], argTypes := #[22, 22] }) (v : Value) (l : List Cn) (n : Nat) (hn : l.length = n) (hs : a.eval s = v) (hr : Ro w 3 v n (flt enC l)) (ad : Addr) (c : Nat) (p : Cn) (hx : a.eval x = .slice (some ad) 1 c)
    (hnews : ∀ j u, (enC p)[j]? = some u → w.cell? (ad.add j) = some u) (hN : n ≤ 4398046511103)
    (h : ∀ v' w', Ro w' 3 v' (n + 1) (flt enC l ++ enC p) → w.grownBy w' v.ownBlock → (v'.ownBlock = v.ownBlock ∨ v'.ownBlock = some w.heap.size) → K (a.put o.dst v') w') :
    if Region.wanted o (yielded ops a.tmps) = true then Oper.wp Tryz.prog o a w K Q else E := by
  rw [if_pos (by simp [Region.wanted, hgd])]
  obtain ⟨i0, hi0, hz0, hz1, hz2⟩ := info_parts Tryz.info69o
  obtain ⟨v', w', hrun, k2, k3, k5⟩ := Ro.app (P := Tryz.prog) 22 o.type 69 i0 _ 3 32 Tryz.underlying22 hi0 hz0 hz1 hz2 rfl (by decide) hr ad 1 c (enC p) rfl hnews (by simp [enC, Value.oneCell']) (by omega) (by unfold maxLen; omega) (by omega)
  unfold Oper.wp
  simp [execOp, ho, resolve, invoke, builtin, hs, hx, hrun, Result.andThen]
  exact h v' w' k2 k3 k5
theorem step_appF {w : World} {ops : Array Oper} {o : Oper} {a : Act} {K : Act → World → Prop} {Q : Exit → Act → World → Prop} {E : Prop} (hgd : o.guard = none) (s x : Operand)
    (ho : o.op = .call { callee := .builtin .append, args := #[s, x], argTypes := #[23, 23] }) (v : Value) (l : List Fv) (n : Nat) (hn : l.length = n) (hs : a.eval s = v) (hr : Ro w 5 v n (flt enF l)) (ad : Addr) (c : Nat) (p : Fv) (hx : a.eval x = .slice (some ad) 1 c)
    (hnews : ∀ j u, (enF p)[j]? = some u → w.cell? (ad.add j) = some u) (h1 : p.cv.oneCell' = true) (h2 : p.hv.oneCell' = true) (hN : n ≤ 1759218604440)
    (h : ∀ v' w', Ro w' 5 v' (n + 1) (flt enF l ++ enF p) → w.grownBy w' v.ownBlock → (v'.ownBlock = v.ownBlock ∨ v'.ownBlock = some w.heap.size) → K (a.put o.dst v') w') :
    if Region.wanted o (yielded ops a.tmps) = true then Oper.wp Tryz.prog o a w K Q else E := by
  rw [if_pos (by simp [Region.wanted, hgd])]
  obtain ⟨i0, hi0, hz0, hz1, hz2⟩ := info_parts Tryz.info73o
  obtain ⟨v', w', hrun, k2, k3, k5⟩ := Ro.app (P := Tryz.prog) 23 o.type 73 i0 _ 5 80 Tryz.underlying23 hi0 hz0 hz1 hz2 rfl (by decide) hr ad 1 c (enF p) rfl hnews (by intro u hu; simp only [enF, List.mem_cons, List.not_mem_nil, or_false] at hu; rcases hu with rfl | rfl | rfl | rfl | rfl <;> first | rfl | assumption) (by omega) (by unfold maxLen; omega) (by omega)
  unfold Oper.wp
  simp [execOp, ho, resolve, invoke, builtin, hs, hx, hrun, Result.andThen]
  exact h v' w' k2 k3 k5
/-- append of one thing, in a list of operations. -/
theorem wpList_appC {w : World} {ops : Array Oper} {rest : List Oper} {o : Oper} {a : Act} {Q : Exit → Act → World → Prop} (hgd : o.guard = none) (s x : Operand)
    (ho : o.op = .call { callee := .builtin .append, args := #[s, x], argTypes := #[22, 22] }) (v : Value) (l : List Cn) (n : Nat) (hn : l.length = n) (hs : a.eval s = v) (hr : Ro w 3 v n (flt enC l)) (ad : Addr) (c : Nat) (p : Cn) (hx : a.eval x = .slice (some ad) 1 c)
    (hnews : ∀ j u, (enC p)[j]? = some u → w.cell? (ad.add j) = some u) (hN : n ≤ 4398046511103)
    (h : ∀ v' w', Ro w' 3 v' (n + 1) (flt enC l ++ enC p) → w.grownBy w' v.ownBlock → (v'.ownBlock = v.ownBlock ∨ v'.ownBlock = some w.heap.size) → wpList Tryz.prog ops Q rest (a.put o.dst v') w') :
    wpList Tryz.prog ops Q (o :: rest) a w := by
  obtain ⟨i0, hi0, hz0, hz1, hz2⟩ := info_parts Tryz.info69o
  exact wpList_app hgd s x 22 ho 69 i0 _ 3 32 Tryz.underlying22 hi0 hz0 hz1 hz2 rfl (by decide) v n (flt enC l) hs hr ad 1 c (enC p) hx rfl hnews (by simp [enC, Value.oneCell']) (by omega) (by unfold maxLen; omega) (by omega) h
theorem wpList_appF {w : World} {ops : Array Oper} {rest : List Oper} {o : Oper} {a : Act} {Q : Exit → Act → World → Prop} (hgd : o.guard = none) (s x : Operand)
    (ho : o.op = .call { callee := .builtin .append, args := #[s, x], argTypes := #[23, 23] }) (v : Value) (l : List Fv) (n : Nat) (hn : l.length = n) (hs : a.eval s = v) (hr : Ro w 5 v n (flt enF l)) (ad : Addr) (c : Nat) (p : Fv) (hx : a.eval x = .slice (some ad) 1 c)
    (hnews : ∀ j u, (enF p)[j]? = some u → w.cell? (ad.add j) = some u) (h1 : p.cv.oneCell' = true) (h2 : p.hv.oneCell' = true) (hN : n ≤ 1759218604440)
    (h : ∀ v' w', Ro w' 5 v' (n + 1) (flt enF l ++ enF p) → w.grownBy w' v.ownBlock → (v'.ownBlock = v.ownBlock ∨ v'.ownBlock = some w.heap.size) → wpList Tryz.prog ops Q rest (a.put o.dst v') w') :
    wpList Tryz.prog ops Q (o :: rest) a w := by
  obtain ⟨i0, hi0, hz0, hz1, hz2⟩ := info_parts Tryz.info73o
  exact wpList_app hgd s x 23 ho 73 i0 _ 5 80 Tryz.underlying23 hi0 hz0 hz1 hz2 rfl (by decide) v n (flt enF l) hs hr ad 1 c (enF p) hx rfl hnews (by intro u hu; simp only [enF, List.mem_cons, List.not_mem_nil, or_false] at hu; rcases hu with rfl | rfl | rfl | rfl | rfl <;> first | rfl | assumption) (by omega) (by unfold maxLen; omega) (by omega) h
/-- Some cells of one thing of a row are written over. -/
theorem Ro.part {T : Type} {en : T → List Value} {sz : Nat} (hz : ∀ x, (en x).length = sz) {w : World} {v : Value} {l : List T} (h : Ro w sz v l.length (flt en l)) {g off cap n : Nat} (e : v = .slice (some ⟨g, off, none⟩) n cap) {k j : Nat} {x x' : T} {vs : List Value} (hx : l[k]? = some x) (hj : j + vs.length ≤ sz)
    (hset : ∀ i, i < sz → (en x')[i]? = if j ≤ i ∧ i < j + vs.length then vs[i - j]? else (en x)[i]?) :
    Ro (w.setCells g (off + k * sz + j) vs) sz v l.length (flt en (l.set k x')) ∧ (∀ i, i < sz → ∃ old, w.cell? ⟨g, off + k * sz + i, none⟩ = some old) ∧ (∀ o, w.frozen? ⟨g, o, none⟩ = false) := by
  obtain ⟨hk, hxk⟩ := List.getElem?_eq_some_iff.1 hx
  have hn : n = l.length := by
    obtain ⟨a, c, e2, _⟩ := h.shape
    rw [e] at e2; cases e2; rfl
  subst hn
  obtain ⟨g2, o2, c2, e2, hlc, hm, hgl, hcell⟩ := h.full (by omega)
  rw [e] at e2; cases e2
  have hkm : k * sz + sz ≤ l.length * sz := by rw [← Nat.succ_mul]; exact Nat.mul_le_mul_right _ hk
  have hcap : l.length * sz ≤ cap * sz := Nat.mul_le_mul_right _ hlc
  refine ⟨?_, fun i hi => ?_, fun o => h.free e o⟩
  · have r := (h.sets e (o := off + k * sz + j) (m := l.length) (vs := vs) (ys := flt en (l.set k x')) (by omega) (by omega) hlc (by rw [flt_length hz, List.length_set]) (fun i hi => by
      rw [flt_set hz l k x' hk i]
      by_cases q1 : k * sz ≤ i ∧ i < k * sz + sz
      · rw [if_pos q1, hset (i - k * sz) (by omega)]
        by_cases q2 : j ≤ i - k * sz ∧ i - k * sz < j + vs.length
        · rw [if_pos q2, if_pos (by omega)]
          congr 1; omega
        · rw [if_neg q2, if_neg (by omega), ← flt_at hz hx (i - k * sz) (by omega)]
          congr 1; omega
      · rw [if_neg q1, if_neg (by omega)]) (fun i hi hi2 => by omega)).1
    rw [e]; exact r
  · rw [Nat.add_assoc, hcell _ (by omega), flt_at hz hx i hi]
    exact ⟨_, List.getElem?_eq_getElem (by rw [hz]; exact hi)⟩
theorem setCells_fr {S : Nat → Prop} (g : Nat) (hS : S g) (vs : List Value) (o : Nat) (w : World) : Fr S w (w.setCells g o vs) := by
  obtain ⟨r1, r2, r3⟩ := setCells_rest g vs o w
  exact ⟨r1, r2, r3, by rw [setCells_size]; exact Nat.le_refl _, fun k hk hn => setCells_other g k (fun e => hn (e ▸ hS)) vs o w⟩
/-- These cells are this function, in lists of its own. -/
def FnO (w : World) (f : Fc) (x : Fv) : Prop :=
  x.name = f.name ∧ x.params = f.params ∧ x.locals = f.locals ∧ Ro w 2 x.cv f.code.length (flt enI f.code) ∧ Ro w 4 x.hv f.hs.length (flt enH f.hs)
theorem FnO.fr {S : Nat → Prop} {w w' : World} {f : Fc} {x : Fv} (h : FnO w f x) (k : Fr S w w') (hn : ∀ b, (x.cv.ownBlock = some b ∨ x.hv.ownBlock = some b) → ¬ S b) : FnO w' f x :=
  ⟨h.1, h.2.1, h.2.2.1, h.2.2.2.1.fr k (fun b hb => hn b (.inl hb)), h.2.2.2.2.fr k (fun b hb => hn b (.inr hb))⟩
theorem FnO.fnv {w : World} {f : Fc} {x : Fv} (h : FnO w f x) : FnV w f x := ⟨h.1, h.2.1, h.2.2.1, Rx.of_ro h.2.2.2.1, Rx.of_ro h.2.2.2.2⟩
theorem FnO.lt {w : World} {f : Fc} {x : Fv} (h : FnO w f x) {b : Nat} (hb : x.cv.ownBlock = some b ∨ x.hv.ownBlock = some b) : b < w.heap.size := by
  rcases hb with hb | hb
  · exact h.2.2.2.1.lt b hb
  · exact h.2.2.2.2.lt b hb
/-- The functions' lists: each apart from all else. -/
structure PT (B : Nat) (cv fv : Value) (fs : List Fc) (xs : List Fv) (wr : World) : Prop where
  xl : xs.length = fs.length
  rows : ∀ (k : Nat) (f : Fc) (x : Fv), fs[k]? = some f → xs[k]? = some x → FnO wr f x
  apart : ∀ (k : Nat) (x : Fv) (b : Nat), xs[k]? = some x → (x.cv.ownBlock = some b ∨ x.hv.ownBlock = some b) → B ≤ b ∧ cv.ownBlock ≠ some b ∧ fv.ownBlock ≠ some b
  each : ∀ (k k' : Nat) (y y' : Fv) (b : Nat), xs[k]? = some y → xs[k']? = some y' → (y.cv.ownBlock = some b → y'.hv.ownBlock ≠ some b ∧ (k ≠ k' → y'.cv.ownBlock ≠ some b)) ∧ (y.hv.ownBlock = some b → k ≠ k' → y'.hv.ownBlock ≠ some b)
theorem PT.nil (B : Nat) (cv fv : Value) (wr : World) : PT B cv fv [] [] wr := ⟨rfl, fun k f x h => by simp at h, fun k x b h => by simp at h, fun k k' y y' b h => by simp at h⟩
theorem PT.at {B : Nat} {cv fv : Value} {fs : List Fc} {xs : List Fv} {wr : World} (h : PT B cv fv fs xs wr) {k : Nat} {x : Fv} (hx : xs[k]? = some x) : ∃ f, fs[k]? = some f ∧ FnO wr f x := by
  have hk := (List.getElem?_eq_some_iff.1 hx).1
  rw [h.xl] at hk
  exact ⟨_, List.getElem?_eq_getElem hk, h.rows k _ x (List.getElem?_eq_getElem hk) hx⟩
theorem PT.lt {B : Nat} {cv fv : Value} {fs : List Fc} {xs : List Fv} {wr : World} (h : PT B cv fv fs xs wr) {k : Nat} {x : Fv} (hx : xs[k]? = some x) {b : Nat} (hb : x.cv.ownBlock = some b ∨ x.hv.ownBlock = some b) : b < wr.heap.size := by
  obtain ⟨f, _, hF⟩ := h.at hx
  exact hF.lt hb
theorem PT.fr {B : Nat} {cv fv fv' cv' : Value} {fs : List Fc} {xs : List Fv} {wr w' : World} {S : Nat → Prop} (h : PT B cv fv fs xs wr) (f : Fr S wr w') (hn : ∀ (k : Nat) (x : Fv) (b : Nat), xs[k]? = some x → (x.cv.ownBlock = some b ∨ x.hv.ownBlock = some b) → ¬ S b)
    (hc : cv'.ownBlock = cv.ownBlock ∨ ∃ b, cv'.ownBlock = some b ∧ wr.heap.size ≤ b) (hf : fv'.ownBlock = fv.ownBlock ∨ ∃ b, fv'.ownBlock = some b ∧ wr.heap.size ≤ b) : PT B cv' fv' fs xs w' := by
  refine ⟨h.xl, fun k g x hg hx => (h.rows k g x hg hx).fr f (fun b hb => hn k x b hx hb), fun k x b hx hb => ?_, h.each⟩
  obtain ⟨a1, a2, a3⟩ := h.apart k x b hx hb
  have lt := h.lt hx hb
  refine ⟨a1, ?_, ?_⟩
  · rcases hc with e | ⟨c, e, hc⟩
    · rw [e]; exact a2
    · rw [e]; intro e2; cases e2; omega
  · rcases hf with e | ⟨c, e, hc⟩
    · rw [e]; exact a3
    · rw [e]; intro e2; cases e2; omega
theorem snoc_at {T : Type} {l : List T} {t y : T} {k : Nat} (hy : (l ++ [t])[k]? = some y) : l[k]? = some y ∨ (k = l.length ∧ y = t) := by
  rcases Nat.lt_trichotomy k l.length with q1 | q1 | q1
  · left; rwa [List.getElem?_append_left q1] at hy
  · right; subst q1; simp at hy; exact ⟨rfl, hy.symm⟩
  · simp [List.getElem?_append_right (Nat.le_of_lt q1)] at hy
    cases e : k - l.length with
    | zero => omega
    | succ n => rw [e] at hy; simp at hy
/-- One function more. -/
theorem PT.push {B : Nat} {cv fv : Value} {fs : List Fc} {xs : List Fv} {wr w1 : World} {f : Fc} {x : Fv} (h : PT B cv fv fs xs wr) (hb : Below wr.heap.size wr w1) (hF : FnO w1 f x) (hB : B ≤ wr.heap.size) (hcv : ∀ k, cv.ownBlock = some k → k < wr.heap.size) (hfv : ∀ k, fv.ownBlock = some k → k < wr.heap.size)
    (hx : ∀ b, (x.cv.ownBlock = some b ∨ x.hv.ownBlock = some b) → wr.heap.size ≤ b) (hne : ∀ b, x.cv.ownBlock = some b → x.hv.ownBlock ≠ some b) : PT B cv fv (fs ++ [f]) (xs ++ [x]) w1 := by
  refine ⟨by simp [h.xl], fun k g y hg hy => ?_, fun k y b hy hyb => ?_, fun k k' y y' b hy hy' => ?_⟩
  · rcases snoc_at hy with hy | ⟨rfl, rfl⟩
    · have hk := (List.getElem?_eq_some_iff.1 hy).1
      rw [List.getElem?_append_left (by rw [← h.xl]; exact hk)] at hg
      exact (h.rows k g y hg hy).fr (S := fun _ => False) (Fr.of_below hb) (fun _ _ e => e)
    · rw [h.xl] at hg
      simp at hg; subst hg; exact hF
  · rcases snoc_at hy with hy | ⟨rfl, rfl⟩
    · exact h.apart k y b hy hyb
    · have := hx b hyb
      exact ⟨by omega, fun e => by have := hcv b e; omega, fun e => by have := hfv b e; omega⟩
  · rcases snoc_at hy with hz | ⟨ek, ey⟩
    · rcases snoc_at hy' with hz' | ⟨ek', ey'⟩
      · exact h.each k k' y y' b hz hz'
      · subst ey'
        refine ⟨fun e => ⟨fun e2 => ?_, fun _ e2 => ?_⟩, fun e _ e2 => ?_⟩
        · have := h.lt hz (.inl e); have := hx b (.inr e2); omega
        · have := h.lt hz (.inl e); have := hx b (.inl e2); omega
        · have := h.lt hz (.inr e); have := hx b (.inr e2); omega
    · subst ey
      rcases snoc_at hy' with hz' | ⟨ek', ey'⟩
      · refine ⟨fun e => ⟨fun e2 => ?_, fun _ e2 => ?_⟩, fun e _ e2 => ?_⟩
        · have := h.lt hz' (.inr e2); have := hx b (.inl e); omega
        · have := h.lt hz' (.inl e2); have := hx b (.inl e); omega
        · have := h.lt hz' (.inr e2); have := hx b (.inr e); omega
      · subst ey'
        exact ⟨fun e => ⟨hne b e, fun q _ => absurd (ek.trans ek'.symm) q⟩, fun e q _ => absurd (ek.trans ek'.symm) q⟩
/-- A program in memory of one's own. -/
structure OP (B : Nat) (p : Pg) (xs : List Fv) (cv fv : Value) (wr : World) : Prop where
  co : Ro wr 3 cv p.consts.length (flt enC p.consts)
  fo : Ro wr 5 fv xs.length (flt enF xs)
  cb : ∀ b, cv.ownBlock = some b → B ≤ b
  fb : ∀ b, fv.ownBlock = some b → B ≤ b
  ne : ∀ b, cv.ownBlock = some b → fv.ownBlock ≠ some b
  pt : PT B cv fv p.funcs xs wr
/-- Is this one of its blocks? -/
def inO (cv fv : Value) (xs : List Fv) (b : Nat) : Prop := cv.ownBlock = some b ∨ fv.ownBlock = some b ∨ ∃ (k : Nat) (x : Fv), xs[k]? = some x ∧ (x.cv.ownBlock = some b ∨ x.hv.ownBlock = some b)
section
variable {B : Nat} {p : Pg} {xs : List Fv} {cv fv : Value} {wr w' : World}
theorem OP.low {B' : Nat} (h : OP B p xs cv fv wr) (hB : B' ≤ B) : OP B' p xs cv fv wr :=
  ⟨h.co, h.fo, fun b e => Nat.le_trans hB (h.cb b e), fun b e => Nat.le_trans hB (h.fb b e), h.ne, ⟨h.pt.xl, h.pt.rows, fun k x b hx hb => by obtain ⟨a1, a2⟩ := h.pt.apart k x b hx hb; exact ⟨Nat.le_trans hB a1, a2⟩, h.pt.each⟩⟩
theorem OP.ge (h : OP B p xs cv fv wr) {b : Nat} (hb : inO cv fv xs b) : B ≤ b ∧ b < wr.heap.size := by
  rcases hb with hb | hb | ⟨k, x, hx, hb⟩
  · exact ⟨h.cb b hb, h.co.lt b hb⟩
  · exact ⟨h.fb b hb, h.fo.lt b hb⟩
  · exact ⟨(h.pt.apart k x b hx hb).1, h.pt.lt hx hb⟩
theorem OP.fr {S : Nat → Prop} (h : OP B p xs cv fv wr) (f : Fr S wr w') (hn : ∀ b, inO cv fv xs b → ¬ S b) : OP B p xs cv fv w' :=
  ⟨h.co.fr f (fun b hb => hn b (.inl hb)), h.fo.fr f (fun b hb => hn b (.inr (.inl hb))), h.cb, h.fb, h.ne, h.pt.fr f (fun k x b hx hb => hn b (.inr (.inr ⟨k, x, hx, hb⟩))) (.inl rfl) (.inl rfl)⟩
theorem OP.keep (h : OP B p xs cv fv wr) (f : Below wr.heap.size wr w') : OP B p xs cv fv w' := h.fr (S := fun _ => False) (Fr.of_below f) (fun _ _ e => e)
theorem OP.pgv (h : OP B p xs cv fv wr) : PgV wr (.agg #[cv, fv]) p :=
  ⟨cv, fv, rfl, Rx.of_ro h.co, xs, h.pt.xl, Rx.of_ro h.fo, fun i f x hf hx => (h.pt.rows i f x hf hx).fnv⟩
/-- A constant is written over, whole or in part. -/
theorem OP.setC (h : OP B p xs cv fv wr) {g off cap n : Nat} (e : cv = .slice (some ⟨g, off, none⟩) n cap) {k j : Nat} {c c' : Cn} {vs : List Value} (hc : p.consts[k]? = some c) (hj : j + vs.length ≤ 3)
    (hset : ∀ i, i < 3 → (enC c')[i]? = if j ≤ i ∧ i < j + vs.length then vs[i - j]? else (enC c)[i]?) : OP B { p with consts := p.consts.set k c' } xs cv fv (wr.setCells g (off + k * 3 + j) vs) := by
  have hg : cv.ownBlock = some g := by rw [e]; rfl
  have f : Fr (fun b => b = g) wr (wr.setCells g (off + k * 3 + j) vs) := setCells_fr (S := fun b => b = g) g rfl vs _ wr
  refine ⟨?_, h.fo.fr f (fun b hb (e2 : b = g) => h.ne g hg (e2 ▸ hb)), h.cb, h.fb, h.ne, h.pt.fr f (fun k x b hx hb (e2 : b = g) => (h.pt.apart k x b hx hb).2.1 (e2 ▸ hg)) (.inl rfl) (.inl rfl)⟩
  have := (h.co.part zC e hc hj hset).1
  simpa using this
/-- A function's lists are written over; its own cells are as they were. -/
theorem OP.setRow (h : OP B p xs cv fv wr) {k : Nat} {f f' : Fc} {x : Fv} (hx : xs[k]? = some x) (hf : p.funcs[k]? = some f) (fr : Fr (fun b => x.cv.ownBlock = some b ∨ x.hv.ownBlock = some b) wr w') (hF : FnO w' f' x) : OP B { p with funcs := p.funcs.set k f' } xs cv fv w' := by
  refine ⟨h.co.fr fr (fun b hb e => (h.pt.apart k x b hx e).2.1 hb), h.fo.fr fr (fun b hb e => (h.pt.apart k x b hx e).2.2 hb), h.cb, h.fb, h.ne, ⟨by simp [h.pt.xl], fun k' g y hg hy => ?_, h.pt.apart, h.pt.each⟩⟩
  have hk := (List.getElem?_eq_some_iff.1 hf).1
  by_cases q : k = k'
  · subst q
    simp [hk] at hg
    rw [hx] at hy; cases hy; subst hg; exact hF
  · simp [List.getElem?_set_ne q] at hg
    refine (h.pt.rows k' g y hg hy).fr fr (fun b hb e => ?_)
    have e1 := h.pt.each k k' x y b hx hy
    have e2 := h.pt.each k' k y x b hy hx
    rcases e with e | e <;> rcases hb with hb | hb
    · exact (e1.1 e).2 q hb
    · exact (e1.1 e).1 hb
    · exact (e2.1 hb).1 e
    · exact e1.2 e q hb
/-- A function's own cells are written over. -/
theorem OP.setF (h : OP B p xs cv fv wr) {g off cap n : Nat} (e : fv = .slice (some ⟨g, off, none⟩) n cap) {k j : Nat} {f f' : Fc} {x x' : Fv} {vs : List Value} {w5 : World} (hx : xs[k]? = some x) (hf : p.funcs[k]? = some f) (fr : Fr (fun b => x.cv.ownBlock = some b ∨ x.hv.ownBlock = some b) wr w5) (hF : FnO w5 f' x')
    (hap : ∀ b, (x'.cv.ownBlock = some b ∨ x'.hv.ownBlock = some b) → (x.cv.ownBlock = some b ∨ x.hv.ownBlock = some b) ∨ wr.heap.size ≤ b) (hin : ∀ b, x'.cv.ownBlock = some b → x'.hv.ownBlock ≠ some b) (hB : B ≤ wr.heap.size) (hj : j + vs.length ≤ 5)
    (hset : ∀ i, i < 5 → (enF x')[i]? = if j ≤ i ∧ i < j + vs.length then vs[i - j]? else (enF x)[i]?) : OP B { p with funcs := p.funcs.set k f' } (xs.set k x') cv fv (w5.setCells g (off + k * 5 + j) vs) := by
  have hg : fv.ownBlock = some g := by rw [e]; rfl
  have hk := (List.getElem?_eq_some_iff.1 hx).1
  have hkf := (List.getElem?_eq_some_iff.1 hf).1
  have f5 : Fr (fun b => b = g) w5 (w5.setCells g (off + k * 5 + j) vs) := setCells_fr (S := fun b => b = g) g rfl vs _ w5
  have new : ∀ b, (x'.cv.ownBlock = some b ∨ x'.hv.ownBlock = some b) → B ≤ b ∧ cv.ownBlock ≠ some b ∧ fv.ownBlock ≠ some b := fun b hb => by
    rcases hap b hb with q | q
    · exact h.pt.apart k x b hx q
    · exact ⟨by omega, fun e2 => by have := h.co.lt b e2; omega, fun e2 => by have := h.fo.lt b e2; omega⟩
  have far : ∀ (k' : Nat) (y : Fv) (b : Nat), k ≠ k' → xs[k']? = some y → (y.cv.ownBlock = some b ∨ y.hv.ownBlock = some b) → ¬ (x'.cv.ownBlock = some b ∨ x'.hv.ownBlock = some b) := fun k' y b q hy hb hb' => by
    rcases hap b hb' with e | e
    · have e1 := h.pt.each k k' x y b hx hy
      have e2 := h.pt.each k' k y x b hy hx
      rcases e with e | e <;> rcases hb with hb | hb
      · exact (e1.1 e).2 q hb
      · exact (e1.1 e).1 hb
      · exact (e2.1 hb).1 e
      · exact e1.2 e q hb
    · have := h.pt.lt hy hb; omega
  have hco5 := h.co.fr fr (fun b hb e => (h.pt.apart k x b hx e).2.1 hb)
  have hfo5 := h.fo.fr fr (fun b hb e => (h.pt.apart k x b hx e).2.2 hb)
  refine ⟨hco5.fr f5 (fun b hb (e2 : b = g) => h.ne b hb (e2 ▸ hg)), ?_, h.cb, h.fb, h.ne, ⟨by simp [h.pt.xl], fun k' g' y hg' hy => ?_, fun k' y b hy hb => ?_, fun k1 k2 y1 y2 b hy1 hy2 => ?_⟩⟩
  · have := (hfo5.part zF e hx hj hset).1
    simpa using this
  · by_cases q : k = k'
    · subst q
      simp [hkf] at hg'
      simp [hk] at hy
      subst hg' hy
      exact hF.fr f5 (fun b hb (e2 : b = g) => (new b hb).2.2 (e2 ▸ hg))
    · simp [List.getElem?_set_ne q] at hg' hy
      refine ((h.pt.rows k' g' y hg' hy).fr fr (fun b hb e => ?_)).fr f5 (fun b hb (e2 : b = g) => (h.pt.apart k' y b hy hb).2.2 (e2 ▸ hg))
      have e1 := h.pt.each k k' x y b hx hy
      have e2 := h.pt.each k' k y x b hy hx
      rcases e with e | e <;> rcases hb with hb | hb
      · exact (e1.1 e).2 q hb
      · exact (e1.1 e).1 hb
      · exact (e2.1 hb).1 e
      · exact e1.2 e q hb
  · by_cases q : k = k'
    · subst q
      simp [hk] at hy
      subst hy
      exact new b hb
    · simp [List.getElem?_set_ne q] at hy
      exact h.pt.apart k' y b hy hb
  · by_cases q1 : k = k1
    · subst q1
      simp [hk] at hy1
      subst hy1
      by_cases q2 : k = k2
      · subst q2
        simp [hk] at hy2
        subst hy2
        exact ⟨fun e => ⟨hin b e, fun q _ => absurd rfl q⟩, fun e q _ => absurd rfl q⟩
      · simp [List.getElem?_set_ne q2] at hy2
        have := far k2 y2 b q2 hy2
        exact ⟨fun e => ⟨fun e2 => this (.inr e2) (.inl e), fun _ e2 => this (.inl e2) (.inl e)⟩, fun e _ e2 => this (.inr e2) (.inr e)⟩
    · simp [List.getElem?_set_ne q1] at hy1
      by_cases q2 : k = k2
      · subst q2
        simp [hk] at hy2
        subst hy2
        have := far k1 y1 b q1 hy1
        exact ⟨fun e => ⟨fun e2 => this (.inl e) (.inr e2), fun _ e2 => this (.inl e) (.inl e2)⟩, fun e _ e2 => this (.inr e) (.inr e2)⟩
      · simp [List.getElem?_set_ne q2] at hy2
        exact h.pt.each k1 k2 y1 y2 b hy1 hy2
/-- One constant more. -/
theorem OP.pushC (h : OP B p xs cv fv wr) {w5 : World} {v' : Value} {c : Cn} {m : Nat} (hr : Ro w5 3 v' m (flt enC p.consts ++ enC c)) (hm : m = p.consts.length + 1) (f : Fr (fun b => cv.ownBlock = some b) wr w5) (hat : v'.ownBlock = cv.ownBlock ∨ ∃ b, v'.ownBlock = some b ∧ wr.heap.size ≤ b) (hB : B ≤ wr.heap.size) : OP B { p with consts := p.consts ++ [c] } xs v' fv w5 := by
  subst hm
  refine ⟨by simpa [flt_append, flt_one] using hr, h.fo.fr f (fun b hb e => h.ne b e hb), fun b hb => ?_, h.fb, fun b hb e => ?_, h.pt.fr f (fun k x b hx hb e => (h.pt.apart k x b hx hb).2.1 e) hat (.inl rfl)⟩
  · rcases hat with q | ⟨b', q, hq⟩
    · exact h.cb b (q ▸ hb)
    · rw [q] at hb; cases hb; omega
  · rcases hat with q | ⟨b', q, hq⟩
    · exact h.ne b (q ▸ hb) e
    · rw [q] at hb; cases hb
      have := h.fo.lt _ e; omega
/-- One function more. -/
theorem OP.pushF (h : OP B p xs cv fv wr) {w1 w5 : World} {v' : Value} {f : Fc} {x : Fv} {m : Nat} (hb : Below wr.heap.size wr w1) (hF : FnO w1 f x) (hB : B ≤ wr.heap.size)
    (hx : ∀ b, (x.cv.ownBlock = some b ∨ x.hv.ownBlock = some b) → wr.heap.size ≤ b) (hne : ∀ b, x.cv.ownBlock = some b → x.hv.ownBlock ≠ some b)
    (hr : Ro w5 5 v' m (flt enF xs ++ enF x)) (hm : m = xs.length + 1) (fr : Fr (fun b => fv.ownBlock = some b) w1 w5) (hat : v'.ownBlock = fv.ownBlock ∨ ∃ b, v'.ownBlock = some b ∧ w1.heap.size ≤ b) : OP B { p with funcs := p.funcs ++ [f] } (xs ++ [x]) cv v' w5 := by
  subst hm
  have h1 := h.keep hb
  have hp := h.pt.push hb hF hB h.co.lt h.fo.lt hx hne
  have hs := hb.size
  refine ⟨h1.co.fr fr (fun b hb e => h.ne b hb e), by simpa [flt_append, flt_one] using hr, h.cb, fun b hb => ?_, fun b hb e => ?_, hp.fr fr (fun k x b hx hb e => (hp.apart k x b hx hb).2.2 e) (.inl rfl) hat⟩
  · rcases hat with q | ⟨b', q, hq⟩
    · exact h.fb b (q ▸ hb)
    · rw [q] at hb; cases hb; omega
  · rcases hat with q | ⟨b', q, hq⟩
    · exact h.ne b hb (q ▸ e)
    · rw [q] at e; cases e
      have := h1.co.lt _ hb; omega
end
end Go.Proofs.YtlogmdldjmkkjaaGreatDoor
