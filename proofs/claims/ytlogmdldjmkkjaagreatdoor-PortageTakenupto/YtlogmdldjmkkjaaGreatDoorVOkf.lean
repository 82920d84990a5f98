/-
  A function that Check has let through.
-/
import Derived.Test.YtlogmdldjmkkjaaGreatDoorSpoil
import Derived.Test.YtlogmdldjmkkjaaGreatDoorVFun
import Derived.Test.YtlogmdldjmkkjaaGreatDoorCheck
namespace Go.Proofs.YtlogmdldjmkkjaaGreatDoor
open Go.RowKit
set_option linter.unusedVariables false
set_option linter.unusedSimpArgs false
set_option maxRecDepth 100000
theorem Tryz.info55 : (Tryz.prog.info? 55).map (fun i => (i.zero, i.size, i.bytes)) = some (some (.slice none 0 0), 1, 24) := by kernel_rfl
theorem wpList_appL {w : World} {ops : Array Oper} {rest : List Oper} {o : Oper} {a : Act} {Q : Exit → Act → World → Prop}
    (hg : o.guard = none) (s x : Operand) (hop : o.op = Op.call { callee := Callee.builtin Builtin.append, args := #[s, x], argTypes := #[54, 54] })
    (v : Value) (n : Nat) (l : List Value) (hs : a.eval s = v) (hr : Ro w 1 v n l) (ad : Addr) (c : Nat) (k : Value) (hk : k.oneCell' = true) (hx : a.eval x = .slice (some ad) 1 c) (hc : ∀ j u, [k][j]? = some u → w.cell? (ad.add j) = some u)
    (hN : n < 1000000000)
    (hK : ∀ v' w', Ro w' 1 v' (n + 1) (l ++ [k]) → w.grownBy w' v.ownBlock → (v'.ownBlock = v.ownBlock ∨ v'.ownBlock = some w.heap.size) → wpList Tryz.prog ops Q rest (a.put o.dst v') w') :
    wpList Tryz.prog ops Q (o :: rest) a w := by
  obtain ⟨i0, hi0, hz0, hz1, hz2⟩ := info_parts Tryz.info55
  exact wpList_app hg s x 54 hop 55 i0 _ 1 24 Tryz.underlying54 hi0 hz0 hz1 hz2 rfl (by decide) v n l hs hr ad 1 c [k] hx rfl hc (by simpa using hk) (by omega) (by unfold maxLen; omega) (by omega) hK
/-- The facts so far. -/
structure FS (w0 : World) (qb : Nat) (hv mv : Value) (vs : List Value) (L Lm : List (List Int)) (W : World) : Prop where
  c0 : W.cell? ⟨qb, 0, none⟩ = some hv
  c1 : W.cell? ⟨qb, 1, none⟩ = some mv
  fz : ∀ j, W.frozen? ⟨qb, j, none⟩ = false
  hr : Ro W 1 hv L.length vs
  mr : Ro W 1 mv Lm.length (flt enN (Lm.map mxl))
  el : ∀ (i : Nat) (l : List Int) (u : Value), L[i]? = some l → vs[i]? = some u → Ro W 1 u l.length (flt enN l) ∧ ∀ k, u.ownBlock = some k → w0.heap.size ≤ k ∧ k ≠ qb ∧ hv.ownBlock ≠ some k ∧ mv.ownBlock ≠ some k
  ho : ∀ k, hv.ownBlock = some k → w0.heap.size ≤ k ∧ k ≠ qb ∧ mv.ownBlock ≠ some k
  mo : ∀ k, mv.ownBlock = some k → w0.heap.size ≤ k ∧ k ≠ qb
  qB : w0.heap.size ≤ qb
  bl : Below w0.heap.size w0 W
  ap : ∀ (i j : Nat) (u v : Value) (k : Nat), i ≠ j → vs[i]? = some u → vs[j]? = some v → u.ownBlock = some k → v.ownBlock ≠ some k
section
variable {w0 W Y : World} {qb : Nat} {hv mv : Value} {vs : List Value} {L Lm : List (List Int)}
theorem FS.lt (h : FS w0 qb hv mv vs L Lm W) : qb < W.heap.size := World.block_lt_of_cell? _ _ h.c0
theorem FS.keep (h : FS w0 qb hv mv vs L Lm W) (k : Below W.heap.size W Y) : FS w0 qb hv mv vs L Lm Y := by
  have f : Fr (fun _ => False) W Y := Fr.of_below k
  exact ⟨(f.cell (a := ⟨qb, 0, none⟩) h.lt (fun e => e)).trans h.c0, (f.cell (a := ⟨qb, 1, none⟩) h.lt (fun e => e)).trans h.c1, fun j => (f.frozen (a := ⟨qb, j, none⟩) h.lt (fun e => e)).trans (h.fz j), h.hr.fr f (fun _ _ e => e), h.mr.fr f (fun _ _ e => e), fun i l u h1 h2 => ⟨(h.el i l u h1 h2).1.fr f (fun _ _ e => e), (h.el i l u h1 h2).2⟩, h.ho, h.mo, h.qB, h.bl.trans (k.mono h.bl.size), h.ap⟩
theorem FS.first (w0 : World) : FS w0 w0.heap.size (.slice none 0 0) (.slice none 0 0) [] [] [] (w0.alloc (.cells #[.slice none 0 0, .slice none 0 0] 57)) := by
  have hg := heap_alloc_new w0 (.cells #[.slice none 0 0, .slice none 0 0] 57)
  refine ⟨?_, ?_, fun j => ?_, Ro.nil _ _, Ro.nil _ _, fun i l u h1 => by simp at h1, fun k hk => by simp [Value.ownBlock] at hk, fun k hk => by simp [Value.ownBlock] at hk, Nat.le_refl _, (Below.refl _ _).alloc (Nat.le_refl _) _, fun i j u v k _ h1 => by simp at h1⟩
  · simp only [World.cell?, hg]; rfl
  · simp only [World.cell?, hg]; rfl
  · simp only [World.frozen?, hg]; rfl
/-- Heights are laid behind the others. -/
theorem FS.rowlt (h : FS w0 qb hv mv vs L Lm W) {j k : Nat} {v : Value} (hv' : vs[j]? = some v) (hk : v.ownBlock = some k) : k < W.heap.size := by
  have hl := h.hr.1
  have hj := (List.getElem?_eq_some_iff.1 hv').1
  have hj2 : j < L.length := by omega
  exact (h.el j _ v (List.getElem?_eq_getElem hj2) hv').1.lt k hk
theorem FS.pushH {l : List Int} {u hv' : Value} {o : Obj} (h : FS w0 qb hv mv vs L Lm W) (hu : Ro W 1 u l.length (flt enN l)) (hf : ∀ k, u.ownBlock = some k → w0.heap.size ≤ k ∧ k ≠ qb ∧ hv.ownBlock ≠ some k ∧ mv.ownBlock ≠ some k) (hq : ∀ (j : Nat) (v : Value) (k : Nat), vs[j]? = some v → v.ownBlock = some k → u.ownBlock ≠ some k)
    (hr : Ro Y 1 hv' (L.length + 1) (vs ++ [u])) (hg : (W.alloc o).grownBy Y hv.ownBlock) (hat : hv'.ownBlock = hv.ownBlock ∨ hv'.ownBlock = some (W.heap.size + 1)) :
    Y.cell? ⟨qb, 0, none⟩ = some hv ∧ Y.frozen? ⟨qb, 0, none⟩ = false ∧ Hid (FS w0 qb hv' mv (vs ++ [u]) (L ++ [l]) Lm (Y.setCell ⟨qb, 0, none⟩ hv')) := by
  have fy : Fr (fun k => hv.ownBlock = some k) W Y := ((Fr.refl _ W).alloc o).grown hg (fun k e => .inr e)
  have fs : Fr (fun k => k = qb) Y (Y.setCell ⟨qb, 0, none⟩ hv') := (Fr.refl (fun k => k = qb) Y).cellset qb 0 _ rfl
  have lt := h.lt
  have hsz := h.bl.size
  have qn : ¬ hv.ownBlock = some qb := fun e => (h.ho qb e).2.1 rfl
  have cY0 := (fy.cell (a := ⟨qb, 0, none⟩) lt qn).trans h.c0
  have cY1 := (fy.cell (a := ⟨qb, 1, none⟩) lt qn).trans h.c1
  have fY : ∀ j, Y.frozen? ⟨qb, j, none⟩ = false := fun j => (fy.frozen (a := ⟨qb, j, none⟩) lt qn).trans (h.fz j)
  have ho' : ∀ k, hv'.ownBlock = some k → w0.heap.size ≤ k ∧ k ≠ qb ∧ mv.ownBlock ≠ some k := fun k hk => by
    rcases hat with q | q
    · exact h.ho k (q ▸ hk)
    · rw [q] at hk
      cases hk
      exact ⟨by omega, by omega, fun e => by have := h.mr.lt _ e; omega⟩
  have hne : ∀ {v : Value} {n : Nat} {xs : List Value}, Ro W 1 v n xs → (∀ k, v.ownBlock = some k → k ≠ qb ∧ hv.ownBlock ≠ some k) → Ro (Y.setCell ⟨qb, 0, none⟩ hv') 1 v n xs := fun r hk => (r.fr fy (fun k e => (hk k e).2)).fr fs (fun k e => (hk k e).1)
  have hfr' : ∀ {v : Value} {n : Nat} {xs : List Value}, Ro W 1 v n xs → (∀ k, v.ownBlock = some k → hv.ownBlock ≠ some k) → ∀ k, v.ownBlock = some k → hv'.ownBlock ≠ some k := fun r hk k e e2 => by
    rcases hat with q | q
    · exact hk k e (q ▸ e2)
    · rw [q] at e2
      cases e2
      have := r.lt _ e
      omega
  have ap' : ∀ (i j : Nat) (x y : Value) (k : Nat), i ≠ j → (vs ++ [u])[i]? = some x → (vs ++ [u])[j]? = some y → x.ownBlock = some k → y.ownBlock ≠ some k := fun i j x y k hij h1 h2 hx hy => by
    by_cases hi : i < vs.length
    · rw [List.getElem?_append_left hi] at h1
      by_cases hj : j < vs.length
      · rw [List.getElem?_append_left hj] at h2
        exact h.ap i j x y k hij h1 h2 hx hy
      · rw [List.getElem?_append_right (by omega)] at h2
        have e := (List.getElem?_eq_some_iff.1 h2).1
        have e0 : j - vs.length = 0 := by simp at e; omega
        rw [e0] at h2
        simp at h2
        subst h2
        exact hq i x k h1 hx hy
    · rw [List.getElem?_append_right (by omega)] at h1
      have e := (List.getElem?_eq_some_iff.1 h1).1
      have e0 : i - vs.length = 0 := by simp at e; omega
      rw [e0] at h1
      simp at h1
      subst h1
      have hj : j < vs.length := by
        have := (List.getElem?_eq_some_iff.1 h2).1
        simp at this
        omega
      rw [List.getElem?_append_left hj] at h2
      exact hq j y k h2 hy hx
  refine ⟨cY0, fY 0, ⟨World.cell?_setCell_same Y _ _ cY0, ?_, fun j => ?_, ?_, ?_, fun i l' u' h1 h2 => ?_, ho', h.mo, h.qB, ?_, ap'⟩⟩
  · rw [World.cell?_setCell_other Y _ _ _ (by simp)]; exact cY1
  · rw [World.frozen?_setCell]; exact fY j
  · rw [List.length_append]; exact hr.fr fs (fun k hk => (ho' k hk).2.1)
  · exact hne h.mr (fun k hk => ⟨(h.mo k hk).2, fun e => (h.ho k e).2.2 hk⟩)
  · by_cases hi : i < L.length
    · rw [List.getElem?_append_left hi] at h1
      have hvl := h.hr.1
      rw [List.getElem?_append_left (by omega)] at h2
      obtain ⟨r, rk⟩ := h.el i l' u' h1 h2
      exact ⟨hne r (fun k hk => ⟨(rk k hk).2.1, (rk k hk).2.2.1⟩), fun k hk => ⟨(rk k hk).1, (rk k hk).2.1, hfr' r (fun k hk => (rk k hk).2.2.1) k hk, (rk k hk).2.2.2⟩⟩
    · have hvl := h.hr.1
      rw [List.getElem?_append_right (by omega)] at h1 h2
      have e1 : i - L.length = 0 := by
        have := (List.getElem?_eq_some_iff.1 h1).1
        simp at this; omega
      have e2 : i - vs.length = 0 := by omega
      rw [e1] at h1; rw [e2] at h2
      simp at h1 h2
      subst h1 h2
      exact ⟨hne hu (fun k hk => ⟨(hf k hk).2.1, (hf k hk).2.2.1⟩), fun k hk => ⟨(hf k hk).1, (hf k hk).2.1, hfr' hu (fun k hk => (hf k hk).2.2.1) k hk, (hf k hk).2.2.2⟩⟩
  · exact (h.bl.trans (fy.below hsz (fun k hk e => by have := h.ho k e; omega))).trans (fs.below (by have := fy.size; omega) (fun k hk e => by have := h.qB; omega))
/-- The greatest likewise. -/
theorem FS.pushM {l : List Int} {mv' : Value} {o : Obj} (h : FS w0 qb hv mv vs L Lm W)
    (hr : Ro Y 1 mv' (Lm.length + 1) (flt enN (Lm.map mxl) ++ enN (mxl l))) (hg : (W.alloc o).grownBy Y mv.ownBlock) (hat : mv'.ownBlock = mv.ownBlock ∨ mv'.ownBlock = some (W.heap.size + 1)) :
    Y.cell? ⟨qb, 1, none⟩ = some mv ∧ Y.frozen? ⟨qb, 1, none⟩ = false ∧ Hid (FS w0 qb hv mv' vs L (Lm ++ [l]) (Y.setCell ⟨qb, 1, none⟩ mv')) := by
  have fy : Fr (fun k => mv.ownBlock = some k) W Y := ((Fr.refl _ W).alloc o).grown hg (fun k e => .inr e)
  have fs : Fr (fun k => k = qb) Y (Y.setCell ⟨qb, 1, none⟩ mv') := (Fr.refl (fun k => k = qb) Y).cellset qb 1 _ rfl
  have lt := h.lt
  have hsz := h.bl.size
  have qn : ¬ mv.ownBlock = some qb := fun e => (h.mo qb e).2 rfl
  have cY0 := (fy.cell (a := ⟨qb, 0, none⟩) lt qn).trans h.c0
  have cY1 := (fy.cell (a := ⟨qb, 1, none⟩) lt qn).trans h.c1
  have fY : ∀ j, Y.frozen? ⟨qb, j, none⟩ = false := fun j => (fy.frozen (a := ⟨qb, j, none⟩) lt qn).trans (h.fz j)
  have mo' : ∀ k, mv'.ownBlock = some k → w0.heap.size ≤ k ∧ k ≠ qb := fun k hk => by
    rcases hat with q | q
    · exact h.mo k (q ▸ hk)
    · rw [q] at hk
      cases hk
      exact ⟨by omega, by omega⟩
  have hne : ∀ {v : Value} {n : Nat} {xs : List Value}, Ro W 1 v n xs → (∀ k, v.ownBlock = some k → k ≠ qb ∧ mv.ownBlock ≠ some k) → Ro (Y.setCell ⟨qb, 1, none⟩ mv') 1 v n xs := fun r hk => (r.fr fy (fun k e => (hk k e).2)).fr fs (fun k e => (hk k e).1)
  have hfr' : ∀ {v : Value} {n : Nat} {xs : List Value}, Ro W 1 v n xs → (∀ k, v.ownBlock = some k → mv.ownBlock ≠ some k) → ∀ k, v.ownBlock = some k → mv'.ownBlock ≠ some k := fun r hk k e e2 => by
    rcases hat with q | q
    · exact hk k e (q ▸ e2)
    · rw [q] at e2
      cases e2
      have := r.lt _ e
      omega
  refine ⟨cY1, fY 1, ⟨?_, World.cell?_setCell_same Y _ _ cY1, fun j => ?_, hne h.hr (fun k hk => ⟨(h.ho k hk).2.1, (h.ho k hk).2.2⟩), ?_, fun i l' u' h1 h2 => ?_, fun k hk => ⟨(h.ho k hk).1, (h.ho k hk).2.1, hfr' h.hr (fun k hk => (h.ho k hk).2.2) k hk⟩, mo', h.qB, ?_, h.ap⟩⟩
  · rw [World.cell?_setCell_other Y _ _ _ (by simp)]; exact cY0
  · rw [World.frozen?_setCell]; exact fY j
  · rw [List.length_append, List.map_append, flt_append]
    simp only [List.map_cons, List.map_nil, flt_one]
    exact hr.fr fs (fun k hk => (mo' k hk).2)
  · obtain ⟨r, rk⟩ := h.el i l' u' h1 h2
    exact ⟨hne r (fun k hk => ⟨(rk k hk).2.1, (rk k hk).2.2.2⟩), fun k hk => ⟨(rk k hk).1, (rk k hk).2.1, (rk k hk).2.2.1, hfr' r (fun k hk => (rk k hk).2.2.2) k hk⟩⟩
  · exact (h.bl.trans (fy.below hsz (fun k hk e => by have := h.mo k e; omega))).trans (fs.below (by have := fy.size; omega) (fun k hk e => by have := h.qB; omega))
end

set_option linter.unusedVariables false
theorem right2 {a : Int} (h : rightB 2 a = true) : 0 ≤ a := by
  have e1 : lo 2 = 0 := rfl
  simp only [rightB, e1] at h
  simp at h
  exact h.1
theorem OkF.of {p : Pg} (h : ckF p = none) {i : Nat} {f : Fc} (hi : p.funcs[i]? = some f) : OkF f := by
  obtain ⟨_, _, _, hF⟩ := ckF_none.1 h
  obtain ⟨_, hs, hc, hh⟩ := fnF_none.1 (hF i f hi)
  obtain ⟨_, _, _, _, h5, h6⟩ := szF_none.1 hs
  obtain ⟨g1, g2⟩ := hsF_none.1 hh
  have hcd := cdF_none.1 hc
  refine ⟨h5, h6, by omega, fun j op a hj => ?_, fun k hk => ?_⟩
  · obtain ⟨e1, e2⟩ := hcd j (op, a) hj
    simp only at e1 e2
    have hok : okB op a = true := by
      unfold erN at e1
      split at e1
      · assumption
      · omega
    refine ⟨hok, fun hj => ?_⟩
    have hop : isOp op = true := by simp [okB] at hok; exact hok.1
    have ho : 0 ≤ op ∧ op < 67 := by simpa [isOp] using hop
    obtain ⟨k, rfl⟩ : ∃ k : Nat, op = k := ⟨op.toNat, by omega⟩
    have hk : k < 67 := by omega
    rw [jm_kd k hk] at hj
    have hk2 : kd k = 2 := by have := of_decide_eq_true hj; omega
    unfold nmB at e2
    rw [kdI_nat hk, hk2] at e2
    have hr : rightB 2 a = true := by rw [okB_op hk, hk2] at hok; exact hok
    exact ⟨right2 hr, by simpa using e2⟩
  · obtain ⟨j, hj, e⟩ := List.getElem_of_mem hk
    have := g2 j k (by rw [← e]; exact List.getElem?_eq_getElem hj)
    unfold fitB at this
    have := of_decide_eq_true this
    omega
/-- What Program finds: the place and why, or the heights of all functions. -/
def VpR (p : Pg) (L : Option (List (List Int))) (k a er : Int) : Prop :=
  (∃ y, ckF p = some (k, a, y) ∧ er = y ∧ L = none ∧ er ≠ 0) ∨
  (ckF p = none ∧ ∃ (i : Nat) (f : Fc), p.funcs[i]? = some f ∧ k = (i : Int) ∧ L = none ∧ er ≠ 0 ∧ FnR f none a er ∧ ∀ (j : Nat) (g : Fc), j < i → p.funcs[j]? = some g → ∃ l, FnR g (some l) 0 0) ∨
  (ckF p = none ∧ k = 0 ∧ a = 0 ∧ er = 0 ∧ ∃ Ls, L = some Ls ∧ Ls.length = p.funcs.length ∧ ∀ (i : Nat) (f : Fc) (l : List Int), p.funcs[i]? = some f → Ls[i]? = some l → FnR f (some l) 0 0)
end Go.Proofs.YtlogmdldjmkkjaaGreatDoor
