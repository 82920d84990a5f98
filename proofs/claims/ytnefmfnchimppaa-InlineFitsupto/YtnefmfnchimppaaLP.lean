/-
  A program that is being made: its box, its two rows.
-/
import Derived.Test.YtnefmfnchimppaaKept
import Derived.Test.YtnefmfnchimppaaFind0
import Derived.Deep.RegionHeld3
namespace Go.Proofs.Ytnefmfnchimppaa
open Go.RowKit
set_option linter.unusedVariables false

theorem Below.drawn {B : Nat} {w w' : World} (h : Below B w w') : Below B w w'.drew := ⟨h.os, h.tape, h.output, h.size, h.block⟩
theorem Below.drawnAlloc {B : Nat} {w : World} (h : B ≤ w.heap.size) (X : Obj) : Below B w (w.drew.alloc X) := (fun k : Below B w (w.alloc X) => ⟨k.os, k.tape, k.output, k.size, k.block⟩) ((Below.refl _ w).alloc h X)
theorem Gx.undrew {T : Type} {w w' : World} {sz : Nat} {en : T → List Value} {l : List T} {v : Value} (h : Gx w.drew sz en l v w') : Gx w sz en l v w' := ⟨h.1, ⟨h.2.1.os, h.2.1.tape, h.2.1.output, h.2.1.size, h.2.1.block⟩, h.2.2⟩
theorem Below.heldIn {B : Nat} {w a : World} (h : Below B w a) {p : Addr} {v : Value} (hp : p.block < B) (hc : w.cell? p = some v) : a.cell? p = some v := (h.cell hp).trans hc
/-- A program in the making: its box (block q), the rows of its constants and of its functions, in memory above B. -/
structure LP (w : World) (B q : Nat) (cs : List Cn) (xs : List Fv) (cv fv : Value) (wr : World) : Prop where
  below : Below B w wr
  hq : B ≤ q
  box : wr.heap[q]? = some (.cells #[cv, fv] 25 (0, 0))
  co : Ro wr 3 cv cs.length (flt enC cs)
  fo : Ro wr 5 fv xs.length (flt enF xs)
  cb : ∀ k, cv.ownBlock = some k → q < k
  fb : ∀ k, fv.ownBlock = some k → q < k
  ne : ∀ k, cv.ownBlock = some k → fv.ownBlock ≠ some k
section
variable {w wr : World} {B q : Nat} {cs : List Cn} {xs : List Fv} {cv fv : Value}
theorem LP.qlt (h : LP w B q cs xs cv fv wr) : q < wr.heap.size := (Array.getElem?_eq_some_iff.1 h.box).1
theorem LP.cells (h : LP w B q cs xs cv fv wr) : wr.cell? ⟨q, 0, none⟩ = some cv ∧ wr.cell? ⟨q, 1, none⟩ = some fv ∧ ∀ o, wr.frozen? ⟨q, o, none⟩ = false := by
  refine ⟨by simp [World.cell?, h.box], by simp [World.cell?, h.box], fun o => by simp [World.frozen?, h.box]⟩
/-- New blocks alone. -/
theorem LP.keep {w' : World} (h : LP w B q cs xs cv fv wr) (f : Below wr.heap.size wr w') : LP w B q cs xs cv fv w' := by
  have hb := h.below.size
  have hs := h.hq
  have hq := h.qlt
  refine ⟨h.below.trans (f.mono (by omega)), hs, (f.block q hq).trans h.box, h.co.keep (fun g hg => f.block g (h.co.lt g hg)), h.fo.keep (fun g hg => f.block g (h.fo.lt g hg)), h.cb, h.fb, h.ne⟩
theorem LP.pushC (h : LP w B q cs xs cv fv wr) {X : Obj} {v' : Value} {w5 : World} {c : Cn} {m : Nat} (hr : Ro w5 3 v' m (flt enC cs ++ enC c)) (hm : m = cs.length + 1) (hg : (wr.alloc X).grownBy w5 cv.ownBlock) (hat : v'.ownBlock = cv.ownBlock ∨ v'.ownBlock = some (wr.alloc X).heap.size) :
    w5.cell? ⟨q, 0, none⟩ = some cv ∧ w5.frozen? ⟨q, 0, none⟩ = false ∧ Fr (fun k => cv.ownBlock = some k) wr w5 ∧ Hid (Fr (fun k => cv.ownBlock = some k ∨ k = q) wr (w5.setCell ⟨q, 0, none⟩ v')) ∧ Hid (LP w B q (cs ++ [c]) xs v' fv (w5.setCell ⟨q, 0, none⟩ v')) := by
  subst hm
  have hq := h.qlt
  have f : Fr (fun k => cv.ownBlock = some k) wr w5 := ((Fr.refl _ wr).alloc X).grown hg (fun k e => .inr e)
  have nq : ¬ cv.ownBlock = some q := fun e => by have := h.cb q e; omega
  have hbx := (f.block q hq nq).trans h.box
  have f2 : Fr (fun k => cv.ownBlock = some k ∨ k = q) wr (w5.setCell ⟨q, 0, none⟩ v') := (f.mono (fun k _ e => .inl e)).setCell ⟨q, 0, none⟩ (.inr (.inr rfl)) v'
  have hn5 : ∀ k, v'.ownBlock = some k → q < k := fun k hk => by
    rcases hat with e | e
    · exact h.cb k (e ▸ hk)
    · rw [e] at hk; cases hk; simp; omega
  refine ⟨by simp [World.cell?, hbx], by simp [World.frozen?, hbx], f, f2, ?_⟩
  refine ⟨h.below.trans (f2.below (by have := h.hq; omega) (fun k hk e => by
      have := h.hq
      rcases e with e | e
      · have := h.cb k e; omega
      · omega)), h.hq, ?_, ?_, ?_, hn5, h.fb, ?_⟩
  · rw [setCell_block hbx]; rfl
  · rw [List.length_append, flt_append, flt_one]
    exact hr.keep (fun g hg => Below.heap_setCell _ _ _ _ (fun e => by have := hn5 g hg; simp at e; omega))
  · refine h.fo.keep (fun g hg => ?_)
    have e1 := h.fb g hg
    rw [Below.heap_setCell _ _ _ _ (fun e => by simp at e; omega)]
    exact f.block g (h.fo.lt g hg) (fun e => h.ne g e hg)
  · intro k hk
    rcases hat with e | e
    · exact h.ne k (e ▸ hk)
    · rw [e] at hk; cases hk
      intro e2
      have := h.fo.lt _ e2
      simp at this; omega
theorem LP.pushF (h : LP w B q cs xs cv fv wr) {X : Obj} {v' : Value} {w5 : World} {c : Fv} {m : Nat} (hr : Ro w5 5 v' m (flt enF xs ++ enF c)) (hm : m = xs.length + 1) (hg : (wr.alloc X).grownBy w5 fv.ownBlock) (hat : v'.ownBlock = fv.ownBlock ∨ v'.ownBlock = some (wr.alloc X).heap.size) :
    w5.cell? ⟨q, 1, none⟩ = some fv ∧ w5.frozen? ⟨q, 1, none⟩ = false ∧ Fr (fun k => fv.ownBlock = some k) wr w5 ∧ Hid (Fr (fun k => fv.ownBlock = some k ∨ k = q) wr (w5.setCell ⟨q, 1, none⟩ v')) ∧ Hid (LP w B q cs (xs ++ [c]) cv v' (w5.setCell ⟨q, 1, none⟩ v')) := by
  subst hm
  have hq := h.qlt
  have f : Fr (fun k => fv.ownBlock = some k) wr w5 := ((Fr.refl _ wr).alloc X).grown hg (fun k e => .inr e)
  have nq : ¬ fv.ownBlock = some q := fun e => by have := h.fb q e; omega
  have hbx := (f.block q hq nq).trans h.box
  have f2 : Fr (fun k => fv.ownBlock = some k ∨ k = q) wr (w5.setCell ⟨q, 1, none⟩ v') := (f.mono (fun k _ e => .inl e)).setCell ⟨q, 1, none⟩ (.inr (.inr rfl)) v'
  have hn5 : ∀ k, v'.ownBlock = some k → q < k := fun k hk => by
    rcases hat with e | e
    · exact h.fb k (e ▸ hk)
    · rw [e] at hk; cases hk; simp; omega
  refine ⟨by simp [World.cell?, hbx], by simp [World.frozen?, hbx], f, f2, ?_⟩
  refine ⟨h.below.trans (f2.below (by have := h.hq; omega) (fun k hk e => by
      have := h.hq
      rcases e with e | e
      · have := h.fb k e; omega
      · omega)), h.hq, ?_, ?_, ?_, h.cb, hn5, ?_⟩
  · rw [setCell_block hbx]; rfl
  · refine h.co.keep (fun g hg => ?_)
    have e1 := h.cb g hg
    rw [Below.heap_setCell _ _ _ _ (fun e => by simp at e; omega)]
    exact f.block g (h.co.lt g hg) (fun e => h.ne g hg e)
  · rw [List.length_append, flt_append, flt_one]
    exact hr.keep (fun g hg => Below.heap_setCell _ _ _ _ (fun e => by have := hn5 g hg; simp at e; omega))
  · intro k hk e2
    rcases hat with e | e
    · exact h.ne k hk (e ▸ e2)
    · rw [e] at e2; cases e2
      have := h.co.lt _ hk
      simp at this; omega
end
theorem Try.info30 : (Try.prog.info? 30).map (fun i => (i.zero, i.size, i.bytes)) = some (some (.agg #[.int .i64 0, .int .i64 0, .string ByteArray.empty]), 3, 32) := by kernel_rfl
theorem Try.info34 : (Try.prog.info? 34).map (fun i => (i.zero, i.size, i.bytes)) = some (some (.agg #[.string ByteArray.empty, .int .i64 0, .int .i64 0, .slice none 0 0, .slice none 0 0]), 5, 80) := by kernel_rfl
/-- append of one thing, in a region. -/
theorem step_appC {w : World} {ops : Array Oper} {o : Oper} {a : Act} {K : Act → World → Prop} {Q : Exit → Act → World → Prop} {E : Prop} (hgd : o.guard = none) (s x : Operand)
    (ho : o.op = .call { callee := .builtin .append, args := #[s, x], argTypes := #[22, 22] }) (v : Value) (l : List Cn) (n : Nat) (hn : l.length = n) (hs : a.eval s = v) (hr : Ro w 3 v n (flt enC l)) (ad : Addr) (c : Nat) (p : Cn) (hx : a.eval x = .slice (some ad) 1 c)
    (hnews : ∀ j u, (enC p)[j]? = some u → w.cell? (ad.add j) = some u) (hN : n ≤ 4398046511103)
    (h : ∀ v' w', Ro w' 3 v' (n + 1) (flt enC l ++ enC p) → w.grownBy w' v.ownBlock → (v'.ownBlock = v.ownBlock ∨ v'.ownBlock = some w.heap.size) → K (a.put o.dst v') w') :
    if Region.wanted o (yielded ops a.tmps) = true then Oper.wp Try.prog o a w K Q else E := by
  rw [if_pos (by simp [Region.wanted, hgd])]
  obtain ⟨i0, hi0, hz0, hz1, hz2⟩ := info_parts Try.info30
  obtain ⟨v', w', hrun, k2, k3, k5⟩ := Ro.app (P := Try.prog) 22 o.type 30 i0 _ 3 32 Try.underlying22 hi0 hz0 hz1 hz2 rfl (by decide) hr ad 1 c (enC p) rfl hnews (by simp [enC, Value.oneCell']) (by omega) (by unfold maxLen; omega) (by omega)
  unfold Oper.wp
  simp [execOp, ho, resolve, invoke, builtin, hs, hx, hrun, Result.andThen]
  exact h v' w' k2 k3 k5
set_option maxRecDepth 100000 in
theorem step_appF {w : World} {ops : Array Oper} {o : Oper} {a : Act} {K : Act → World → Prop} {Q : Exit → Act → World → Prop} {E : Prop} (hgd : o.guard = none) (s x : Operand)
    (ho : o.op = .call { callee := .builtin .append, args := #[s, x], argTypes := #[23, 23] }) (v : Value) (l : List Fv) (n : Nat) (hn : l.length = n) (hs : a.eval s = v) (hr : Ro w 5 v n (flt enF l)) (ad : Addr) (c : Nat) (p : Fv) (hx : a.eval x = .slice (some ad) 1 c)
    (hnews : ∀ j u, (enF p)[j]? = some u → w.cell? (ad.add j) = some u) (h1 : p.cv.oneCell' = true) (h2 : p.hv.oneCell' = true) (hN : n ≤ 1759218604440)
    (h : ∀ v' w', Ro w' 5 v' (n + 1) (flt enF l ++ enF p) → w.grownBy w' v.ownBlock → (v'.ownBlock = v.ownBlock ∨ v'.ownBlock = some w.heap.size) → K (a.put o.dst v') w') :
    if Region.wanted o (yielded ops a.tmps) = true then Oper.wp Try.prog o a w K Q else E := by
  rw [if_pos (by simp [Region.wanted, hgd])]
  obtain ⟨i0, hi0, hz0, hz1, hz2⟩ := info_parts Try.info34
  obtain ⟨v', w', hrun, k2, k3, k5⟩ := Ro.app (P := Try.prog) 23 o.type 34 i0 _ 5 80 Try.underlying23 hi0 hz0 hz1 hz2 rfl (by decide) hr ad 1 c (enF p) rfl hnews (by intro u hu; simp only [enF, List.mem_cons, List.not_mem_nil, or_false] at hu; rcases hu with rfl | rfl | rfl | rfl | rfl <;> first | assumption | rfl) (by omega) (by unfold maxLen; omega) (by omega)
  unfold Oper.wp
  simp [execOp, ho, resolve, invoke, builtin, hs, hx, hrun, Result.andThen]
  exact h v' w' k2 k3 k5
/-- append of one thing, in a list of operations. -/
theorem wpList_appC {w : World} {ops : Array Oper} {rest : List Oper} {o : Oper} {a : Act} {Q : Exit → Act → World → Prop} (hgd : o.guard = none) (s x : Operand)
    (ho : o.op = .call { callee := .builtin .append, args := #[s, x], argTypes := #[22, 22] }) (v : Value) (l : List Cn) (n : Nat) (hn : l.length = n) (hs : a.eval s = v) (hr : Ro w 3 v n (flt enC l)) (ad : Addr) (c : Nat) (p : Cn) (hx : a.eval x = .slice (some ad) 1 c)
    (hnews : ∀ j u, (enC p)[j]? = some u → w.cell? (ad.add j) = some u) (hN : n ≤ 4398046511103)
    (h : ∀ v' w', Ro w' 3 v' (n + 1) (flt enC l ++ enC p) → w.grownBy w' v.ownBlock → (v'.ownBlock = v.ownBlock ∨ v'.ownBlock = some w.heap.size) → wpList Try.prog ops Q rest (a.put o.dst v') w') :
    wpList Try.prog ops Q (o :: rest) a w := by
  obtain ⟨i0, hi0, hz0, hz1, hz2⟩ := info_parts Try.info30
  exact wpList_app hgd s x 22 ho 30 i0 _ 3 32 Try.underlying22 hi0 hz0 hz1 hz2 rfl (by decide) v n (flt enC l) hs hr ad 1 c (enC p) hx rfl hnews (by simp [enC, Value.oneCell']) (by omega) (by unfold maxLen; omega) (by omega) h
set_option maxRecDepth 100000 in
theorem wpList_appF {w : World} {ops : Array Oper} {rest : List Oper} {o : Oper} {a : Act} {Q : Exit → Act → World → Prop} (hgd : o.guard = none) (s x : Operand)
    (ho : o.op = .call { callee := .builtin .append, args := #[s, x], argTypes := #[23, 23] }) (v : Value) (l : List Fv) (n : Nat) (hn : l.length = n) (hs : a.eval s = v) (hr : Ro w 5 v n (flt enF l)) (ad : Addr) (c : Nat) (p : Fv) (hx : a.eval x = .slice (some ad) 1 c)
    (hnews : ∀ j u, (enF p)[j]? = some u → w.cell? (ad.add j) = some u) (h1 : p.cv.oneCell' = true) (h2 : p.hv.oneCell' = true) (hN : n ≤ 1759218604440)
    (h : ∀ v' w', Ro w' 5 v' (n + 1) (flt enF l ++ enF p) → w.grownBy w' v.ownBlock → (v'.ownBlock = v.ownBlock ∨ v'.ownBlock = some w.heap.size) → wpList Try.prog ops Q rest (a.put o.dst v') w') :
    wpList Try.prog ops Q (o :: rest) a w := by
  obtain ⟨i0, hi0, hz0, hz1, hz2⟩ := info_parts Try.info34
  exact wpList_app hgd s x 23 ho 34 i0 _ 5 80 Try.underlying23 hi0 hz0 hz1 hz2 rfl (by decide) v n (flt enF l) hs hr ad 1 c (enF p) hx rfl hnews (by intro u hu; simp only [enF, List.mem_cons, List.not_mem_nil, or_false] at hu; rcases hu with rfl | rfl | rfl | rfl | rfl <;> first | assumption | rfl) (by omega) (by unfold maxLen; omega) (by omega) h
def mkC (n : Nat) : List Cn := (List.range n).map (fun (i : Nat) => ⟨-7, (i : Int), ByteArray.empty⟩)
theorem mkC_succ (n : Nat) : mkC (n + 1) = mkC n ++ [⟨-7, (n : Int), ByteArray.empty⟩] := by simp [mkC, List.range_succ]
theorem mkC_length (n : Nat) : (mkC n).length = n := by simp [mkC]
def mkF (N n : Nat) : List Fv := (List.range n).map (fun (i : Nat) => ⟨ByteArray.empty, -7, (N : Int) + (i : Int), .slice none 0 0, .slice none 0 0⟩)
theorem mkF_succ (N n : Nat) : mkF N (n + 1) = mkF N n ++ [⟨ByteArray.empty, -7, (N : Int) + (n : Int), .slice none 0 0, .slice none 0 0⟩] := by simp [mkF, List.range_succ]
theorem mkF_length (N n : Nat) : (mkF N n).length = n := by simp [mkF]
/-- Full lists in memory of their own. -/
structure OwnY (q : Nat) (cv fv : Value) (fs : List Fc) (ys : List Fv) (wr : World) : Prop where
  rows : ∀ (k : Nat) (f : Fc) (y : Fv), fs[k]? = some f → ys[k]? = some y → y.name = ByteArray.empty ∧ y.params = -7 ∧ y.locals = (k : Int) ∧ Ro wr 2 y.cv (f.code.length + 64) (flt enI (f.code ++ mkI 64)) ∧ Ro wr 4 y.hv (f.hs.length + 64) (flt enH (f.hs ++ mkH 64))
  le : ys.length ≤ fs.length
  apart : ∀ (k : Nat) (y : Fv) (b : Nat), ys[k]? = some y → (y.cv.ownBlock = some b ∨ y.hv.ownBlock = some b) → q < b ∧ b < wr.heap.size ∧ cv.ownBlock ≠ some b ∧ fv.ownBlock ≠ some b
  each : ∀ (k k' : Nat) (y y' : Fv) (b : Nat), ys[k]? = some y → ys[k']? = some y' → (y.cv.ownBlock = some b → y'.hv.ownBlock ≠ some b ∧ (k ≠ k' → y'.cv.ownBlock ≠ some b)) ∧ (y.hv.ownBlock = some b → k ≠ k' → y'.hv.ownBlock ≠ some b)
theorem OwnY.nil (q : Nat) (cv fv : Value) (fs : List Fc) (wr : World) : OwnY q cv fv fs [] wr := ⟨fun k f y _ h => by simp at h, Nat.zero_le _, fun k y b h => by simp at h, fun k k' y y' b h => by simp at h⟩
theorem OwnY.fr {q : Nat} {cv fv fv' : Value} {fs : List Fc} {ys : List Fv} {wr w' : World} (h : OwnY q cv fv fs ys wr) (f : Fr (fun k => fv.ownBlock = some k ∨ k = q) wr w') (hat : fv'.ownBlock = fv.ownBlock ∨ ∃ b, fv'.ownBlock = some b ∧ wr.heap.size ≤ b) : OwnY q cv fv' fs ys w' := by
  have hne : ∀ (k : Nat) (y : Fv) (b : Nat), ys[k]? = some y → (y.cv.ownBlock = some b ∨ y.hv.ownBlock = some b) → ¬ (fv.ownBlock = some b ∨ b = q) := fun k y b hy hb e => by
    obtain ⟨a1, a2, a3, a4⟩ := h.apart k y b hy hb
    rcases e with e | e
    · exact a4 e
    · omega
  refine ⟨fun k g y hg hy => ?_, h.le, fun k y b hy hb => ?_, h.each⟩
  · obtain ⟨e1, e2, e3, r1, r2⟩ := h.rows k g y hg hy
    exact ⟨e1, e2, e3, r1.fr f (fun b hb => hne k y b hy (.inl hb)), r2.fr f (fun b hb => hne k y b hy (.inr hb))⟩
  · obtain ⟨a1, a2, a3, a4⟩ := h.apart k y b hy hb
    refine ⟨a1, Nat.lt_of_lt_of_le a2 f.size, a3, ?_⟩
    rcases hat with e | ⟨c, e, hc⟩
    · rw [e]; exact a4
    · rw [e]; intro e2; cases e2; omega
theorem OwnY.push {q : Nat} {cv fv : Value} {fs : List Fc} {ys : List Fv} {wr w1 w2 : World} {f : Fc} {v1 v2 : Value} {N : Nat} (h : OwnY q cv fv fs ys wr) (hf : fs[ys.length]? = some f) (hq : q < wr.heap.size) (hcv : ∀ k, cv.ownBlock = some k → k < wr.heap.size) (hfv : ∀ k, fv.ownBlock = some k → k < wr.heap.size)
    (g1 : Gx wr 2 enI (f.code ++ mkI 64) v1 w1) (g2 : Gx w1 4 enH (f.hs ++ mkH 64) v2 w2) (hN : N = ys.length) : OwnY q cv fv fs (ys ++ [⟨ByteArray.empty, -7, (N : Int), v1, v2⟩]) w2 := by
  subst hN
  have b2 : Below wr.heap.size wr w2 := g1.2.1.trans (g2.2.1.mono g1.2.1.size)
  have s1 := g1.2.1.size
  have s2 := g2.2.1.size
  have l1 := g1.1.lt
  have l2 := g2.1.lt
  have old : ∀ (k : Nat) (y : Fv) (b : Nat), ys[k]? = some y → (y.cv.ownBlock = some b ∨ y.hv.ownBlock = some b) → b < wr.heap.size := fun k y b hy hb => (h.apart k y b hy hb).2.1
  have split : ∀ (k : Nat) (y : Fv), (ys ++ [(⟨ByteArray.empty, -7, (ys.length : Int), v1, v2⟩ : Fv)])[k]? = some y → ys[k]? = some y ∨ (k = ys.length ∧ y = ⟨ByteArray.empty, -7, (ys.length : Int), v1, v2⟩) := fun k y hy => by
    rcases Nat.lt_trichotomy k ys.length with q1 | q1 | q1
    · left; rwa [List.getElem?_append_left q1] at hy
    · right; subst q1; simp at hy; exact ⟨rfl, hy.symm⟩
    · simp [List.getElem?_append_right (Nat.le_of_lt q1)] at hy
      have : k - ys.length ≠ 0 := by omega
      cases e : k - ys.length with
      | zero => omega
      | succ n => rw [e] at hy; simp at hy
  have hlt := (List.getElem?_eq_some_iff.1 hf).1
  refine ⟨fun k g y hg hy => ?_, by simp; omega, fun k y b hy hb => ?_, fun k k' y y' b hy hy' => ?_⟩
  · rcases split k y hy with hy | ⟨rfl, rfl⟩
    · obtain ⟨e1, e2, e3, r1, r2⟩ := h.rows k g y hg hy
      exact ⟨e1, e2, e3, r1.keep (fun b hb => b2.block b (old k y b hy (.inl hb))), r2.keep (fun b hb => b2.block b (old k y b hy (.inr hb)))⟩
    · rw [hf] at hg; cases hg
      refine ⟨rfl, rfl, rfl, ?_, ?_⟩
      · have := g1.1
        rw [lmI_length] at this
        exact this.keep (fun b hb => g2.2.1.block b (l1 b hb))
      · have := g2.1
        rw [lmH_length] at this
        exact this
  · rcases split k y hy with hy | ⟨rfl, rfl⟩
    · obtain ⟨a1, a2, a3, a4⟩ := h.apart k y b hy hb
      exact ⟨a1, by omega, a3, a4⟩
    · simp only at hb
      have hge : wr.heap.size ≤ b := by
        rcases hb with hb | hb
        · exact g1.2.2 b hb
        · have := g2.2.2 b hb; omega
      refine ⟨by omega, ?_, fun e => by have := hcv b e; omega, fun e => by have := hfv b e; omega⟩
      rcases hb with hb | hb
      · have := l1 b hb; omega
      · exact l2 b hb
  · rcases split k y hy with hy | ⟨rfl, rfl⟩
    · rcases split k' y' hy' with hy' | ⟨rfl, rfl⟩
      · exact h.each k k' y y' b hy hy'
      · refine ⟨fun e => ⟨fun e2 => ?_, fun _ e2 => ?_⟩, fun e _ e2 => ?_⟩
        · have := old k y b hy (.inl e); have := g2.2.2 b e2; omega
        · have := old k y b hy (.inl e); have := g1.2.2 b e2; omega
        · have := old k y b hy (.inr e); have := g2.2.2 b e2; omega
    · rcases split k' y' hy' with hy' | ⟨rfl, rfl⟩
      · refine ⟨fun e => ⟨fun e2 => ?_, fun _ e2 => ?_⟩, fun e _ e2 => ?_⟩
        · have := old k' y' b hy' (.inr e2); have := g1.2.2 b e; omega
        · have := old k' y' b hy' (.inl e2); have := g1.2.2 b e; omega
        · have := old k' y' b hy' (.inr e2); have := g2.2.2 b e; omega
      · refine ⟨fun e => ⟨fun e2 => ?_, fun q _ => absurd rfl q⟩, fun e q _ => absurd rfl q⟩
        have := l1 b e; have := g2.2.2 b e2; omega
theorem LP.setF {w wr : World} {B q : Nat} {cs : List Cn} {xs : List Fv} {cv fv : Value} (h : LP w B q cs xs cv fv wr) {g off cap n : Nat} (e : fv = .slice (some ⟨g, off, none⟩) n cap) {k j : Nat} {x x' : Fv} {u : Value} (hx : xs[k]? = some x) (hj : j < 5)
    (hset : ∀ i, i < 5 → (enF x')[i]? = if i = j then some u else (enF x)[i]?) :
    (∃ old, wr.cell? ⟨g, off + k * 5 + j, none⟩ = some old) ∧ wr.frozen? ⟨g, off + k * 5 + j, none⟩ = false ∧ Hid (Fr (fun b => fv.ownBlock = some b ∨ b = q) wr (wr.setCell ⟨g, off + k * 5 + j, none⟩ u)) ∧ Hid (LP w B q cs (xs.set k x') cv fv (wr.setCell ⟨g, off + k * 5 + j, none⟩ u)) := by
  obtain ⟨hk, hxk⟩ := List.getElem?_eq_some_iff.1 hx
  have hfo := h.fo
  have hn : n = xs.length := by
    obtain ⟨a, c, e2, _⟩ := hfo.shape
    rw [e] at e2; cases e2; rfl
  subst hn
  have hb : fv.ownBlock = some g := by rw [e]; rfl
  have hqg := h.fb g hb
  obtain ⟨g2, o2, c2, e2, hlc, hm, hgl, hcell⟩ := hfo.full (by omega)
  rw [e] at e2; cases e2
  have hm5 : k * 5 + j < xs.length * 5 := by omega
  have old : wr.cell? ⟨g, off + k * 5 + j, none⟩ = some ((enF x)[j]'(by rw [zF]; exact hj)) := by
    rw [Nat.add_assoc, hcell _ hm5, flt_at zF hx j hj]
    exact List.getElem?_eq_getElem _
  have hcap5 : xs.length * 5 ≤ cap * 5 := Nat.mul_le_mul_right _ hlc
  obtain ⟨r1, r2⟩ := hfo.sets e (o := off + k * 5 + j) (m := xs.length) (vs := [u]) (ys := flt enF (xs.set k x')) (by omega) (by simp; omega) hlc (by rw [flt_length zF, List.length_set]) (fun i hi => by
    rw [flt_set zF xs k x' hk i]
    simp only [List.length_singleton]
    by_cases q1 : k * 5 ≤ i ∧ i < k * 5 + 5
    · rw [if_pos q1, hset (i - k * 5) (by omega)]
      by_cases q2 : i - k * 5 = j
      · rw [if_pos q2, if_pos (by omega), show off + i - (off + k * 5 + j) = 0 by omega]; rfl
      · rw [if_neg q2, if_neg (by omega), ← flt_at zF hx (i - k * 5) (by omega)]
        congr 1; omega
    · rw [if_neg q1, if_neg (by omega)]) (fun i hi hi2 => by omega)
  have hst : wr.setCells g (off + k * 5 + j) [u] = wr.setCell ⟨g, off + k * 5 + j, none⟩ u := rfl
  rw [hst] at r1 r2
  have f : Fr (fun b => fv.ownBlock = some b ∨ b = q) wr (wr.setCell ⟨g, off + k * 5 + j, none⟩ u) := (Fr.refl _ wr).setCell _ (.inr (.inl hb)) u
  have hqlt := h.qlt
  refine ⟨⟨_, old⟩, hfo.free e _, f, ⟨h.below.trans (f.below (by have := h.hq; omega) (fun b hb2 e2 => by
    have := h.hq
    rcases e2 with e2 | e2
    · have := h.fb b e2; omega
    · omega)), h.hq, ?_, ?_, ?_, h.cb, h.fb, h.ne⟩⟩
  · rw [Below.heap_setCell _ _ _ _ (fun e2 => by simp at e2; omega)]; exact h.box
  · refine h.co.keep (fun b hb2 => Below.heap_setCell _ _ _ _ (fun e2 => ?_))
    simp at e2; subst e2
    exact h.ne _ hb2 hb
  · rw [List.length_set]
    subst e
    exact r1
/-- A function lent: its lists are the beginnings of the full ones. -/
def cutV : Value → Nat → Value
  | .slice a _ c, n => .slice a n c
  | v, _ => v
def lentF (f : Fc) (y : Fv) : Fv := ⟨f.name, f.params, f.locals, cutV y.cv f.code.length, cutV y.hv f.hs.length⟩
/-- The first i are lent. -/
def lentTo (fs : List Fc) (xs ys : List Fv) (i : Nat) : List Fv := (List.zipWith lentF fs ys).take i ++ xs.drop i
theorem lentTo_at {fs : List Fc} {xs ys : List Fv} {i k : Nat} {x : Fv} (hl : (List.zipWith lentF fs ys).length = xs.length) (hk : i ≤ k) (hx : xs[k]? = some x) : (lentTo fs xs ys i)[k]? = some x := by
  have hk2 := (List.getElem?_eq_some_iff.1 hx).1
  unfold lentTo
  have e : ((List.zipWith lentF fs ys).take i).length = i := by rw [List.length_take, hl]; omega
  rw [List.getElem?_append_right (by omega), e, List.getElem?_drop]
  rw [show i + (k - i) = k by omega]; exact hx
theorem lentTo_len {fs : List Fc} {xs ys : List Fv} {i : Nat} (hl : (List.zipWith lentF fs ys).length = xs.length) (hi : i ≤ xs.length) : (lentTo fs xs ys i).length = xs.length := by
  unfold lentTo
  rw [List.length_append, List.length_take, List.length_drop, hl]; omega
theorem lentTo_set {fs : List Fc} {xs ys : List Fv} {i : Nat} {f : Fc} {y : Fv} (hl : (List.zipWith lentF fs ys).length = xs.length) (hf : fs[i]? = some f) (hy : ys[i]? = some y) (hi : i < xs.length) : (lentTo fs xs ys i).set i (lentF f y) = lentTo fs xs ys (i + 1) := by
  unfold lentTo
  have e : ((List.zipWith lentF fs ys).take i).length = i := by rw [List.length_take, hl]; omega
  rw [List.set_append_right _ _ (by omega), e, Nat.sub_self]
  have hz : (List.zipWith lentF fs ys)[i]? = some (lentF f y) := by rw [List.getElem?_zipWith, hf, hy]
  rw [List.take_add_one, hz, List.append_assoc]
  congr 1
  rw [List.drop_eq_getElem_cons hi]
  rfl
theorem LP.rowF {w wr : World} {B q : Nat} {cs : List Cn} {xs : List Fv} {cv : Value} {g off cap n : Nat} (h : LP w B q cs xs cv (.slice (some ⟨g, off, none⟩) n cap) wr) {k : Nat} {x : Fv} (hx : xs[k]? = some x) : ∀ (j : Nat) u, (enF x)[j]? = some u → wr.cell? ⟨g, off + k * 5 + j, none⟩ = some u := by
  obtain ⟨b, o, c, e, _, _, _, hc⟩ := (Rx.of_ro h.fo).elem zF hx
  cases e
  exact hc
theorem LP.drawn {w wr : World} {B q : Nat} {cs : List Cn} {xs : List Fv} {cv fv : Value} (h : LP w B q cs xs cv fv wr) : LP w B q cs xs cv fv wr.drew := ⟨Below.drawn h.below, h.hq, h.box, h.co.keep (fun _ _ => rfl), h.fo.keep (fun _ _ => rfl), h.cb, h.fb, h.ne⟩
theorem OwnY.drawn {q : Nat} {cv fv : Value} {fs : List Fc} {ys : List Fv} {wr : World} (h : OwnY q cv fv fs ys wr) : OwnY q cv fv fs ys wr.drew :=
  ⟨fun k f y hf hy => by obtain ⟨e1, e2, e3, r1, r2⟩ := h.rows k f y hf hy; exact ⟨e1, e2, e3, r1.keep (fun _ _ => rfl), r2.keep (fun _ _ => rfl)⟩, h.le, h.apart, h.each⟩
end Go.Proofs.Ytnefmfnchimppaa
