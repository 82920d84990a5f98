/-
  FramesUnwind: its law.
-/
import Derived.Test.YtfcgpafjhifogabSh
namespace Go.Proofs.Ytfcgpafjhifogab
open Go.RowKit
set_option linter.unusedVariables false
set_option linter.unusedSimpArgs false
theorem ctN_app {p : Pg} {fs : List Fm} {f : Fm} {x : Int × Int} : ∀ n, n ≤ fs.length → ctN p (fs ++ [f]) x n = ctN p fs x n
  | 0, _ => rfl
  | n + 1, h => by
    have e : (fs ++ [f])[n]? = fs[n]? := List.getElem?_append_left (by omega)
    have e2 : (fs ++ [f]).take n = fs.take n := List.take_append_of_le_length (by omega)
    rw [ctN, ctN, e, e2, ctN_app n (by omega)]
theorem ct_some {p : Pg} {fs : List Fm} {f : Fm} {x : Int × Int} {k : Nat} {t : Int} (h : tk p f = some (k, t)) : ct p (fs ++ [f]) x = some (fs ++ [⟨f.fn, t, f.sl.take k ++ [x]⟩]) := by
  rw [ct, List.length_append, List.length_singleton, ctN_some (f := f) (by simp) h]
  simp
theorem ct_none {p : Pg} {fs : List Fm} {f : Fm} {x : Int × Int} (h : tk p f = none) : ct p (fs ++ [f]) x = ct p fs x := by
  rw [ct, List.length_append, List.length_singleton, ctN_none (f := f) (by simp) h, ctN_app _ (Nat.le_refl _)]
  rfl
theorem ctN_len {p : Pg} {fs gs : List Fm} {x : Int × Int} : ∀ n, n ≤ fs.length → ctN p fs x n = some gs → gs.length ≤ n ∧ ∃ m f k t, m < n ∧ fs[m]? = some f ∧ tk p f = some (k, t) ∧ gs = fs.take m ++ [⟨f.fn, t, f.sl.take k ++ [x]⟩]
  | 0, _, h => by cases h
  | n + 1, hn, h => by
    obtain ⟨f, hf⟩ : ∃ f, fs[n]? = some f := ⟨_, List.getElem?_eq_getElem (by omega)⟩
    cases e : tk p f with
    | none =>
      rw [ctN_none hf e] at h
      obtain ⟨h1, m, g, k, t, h2, h3⟩ := ctN_len n (by omega) h
      exact ⟨by omega, m, g, k, t, by omega, h3⟩
    | some kt =>
      obtain ⟨k, t⟩ := kt
      rw [ctN_some hf e] at h
      cases h
      exact ⟨by simp; omega, n, f, k, t, by omega, hf, e, rfl⟩
/-- What is left when a value was taken: some first frames, and the one that takes it. -/
theorem ct_at {p : Pg} {fs gs : List Fm} {x : Int × Int} (h : ct p fs x = some gs) : ∃ m f k t, m < fs.length ∧ fs[m]? = some f ∧ tk p f = some (k, t) ∧ gs = fs.take m ++ [⟨f.fn, t, f.sl.take k ++ [x]⟩] := (ctN_len _ (Nat.le_refl _) h).2
/-- The same bounds behind it. -/
theorem ct_bound {p : Pg} {fs gs : List Fm} {x : Int × Int} (h : ct p fs x = some gs) {N : Nat} (hN : fs.length ≤ N) (hS : ∀ f ∈ fs, f.sl.length < N) : gs.length ≤ N ∧ ∀ f ∈ gs, f.sl.length ≤ N := by
  obtain ⟨m, f, k, t, h1, h2, h3, rfl⟩ := ct_at h
  refine ⟨by simp; omega, fun g hg => ?_⟩
  rcases List.mem_append.1 hg with q | q
  · have := hS g (List.mem_of_mem_take q); omega
  · rw [List.mem_singleton] at q
    subst q
    have := hS f (List.mem_of_getElem? h2)
    simp
    omega
/-- append of one frame, in a region that draws. -/
theorem step_appM {w : World} {ops : Array Oper} {o : Oper} {a : Act} {K : Act → World → Prop} {Q : Exit → Act → World → Prop} {E : Prop} (hw : Region.wanted o (yielded ops a.tmps) = true) (s x : Operand)
    (ho : o.op = .call { callee := .builtin .append, args := #[s, x], argTypes := #[26, 26] }) (v u : Value) (hs : a.eval s = v) (hx : a.eval x = u) (n : Nat) (l : List Fmv) (p : Fmv)
    (hr : Ro w 3 v n (flt enM l)) (hu : Rx w 3 u 1 (flt enM [p])) (h1 : p.sv.oneCell' = true) (hN : n ≤ 3000000)
    (h : ∀ v' w', Ro w' 3 v' (n + 1) (flt enM l ++ enM p) → w.grownBy w' v.ownBlock → (v'.ownBlock = v.ownBlock ∨ v'.ownBlock = some w.heap.size) → K (a.put o.dst v') w') :
    if Region.wanted o (yielded ops a.tmps) = true then Oper.wp Try.prog o a w K Q else E := by
  rw [flt_one] at hu
  obtain ⟨v', w', hrun, h2, h3, h4⟩ := Ro.appX 26 o.type 34 _ Try.underlying26 infM rfl (by omega) hr hu (by intro u hu; simp only [enM, List.mem_cons, List.not_mem_nil, or_false] at hu; rcases hu with rfl | rfl | rfl <;> first | assumption | rfl) (by unfold maxLen; omega) (by omega)
  rw [if_pos hw]
  unfold Oper.wp
  simp [execOp, ho, resolve, invoke, builtin, hs, hx, hrun, Result.andThen]
  exact h v' w' h2 h3 h4
/-- One frame more, as it can be read. -/
theorem OF.pushV {B : Nat} {wr w2 : World} {v v' sv : Value} {fs : List Fm} {xs : List Fmv} {f : Fm} {m : Nat} (h : OF B wr v fs xs) (hr : Ro w2 3 v' m (flt enM xs ++ enM ⟨f.fn, f.pc, sv⟩)) (hm : m = fs.length + 1) (hF : Fr (fun k => v.ownBlock = some k) wr w2) (hs : Rx w2 2 sv f.sl.length (flt enI f.sl)) : FsV w2 v' (fs ++ [f]) := by
  subst hm
  have hl := h.len
  refine ⟨xs ++ [⟨f.fn, f.pc, sv⟩], by simp [h.len], by rw [List.length_append, flt_append, flt_one, hl]; exact Rx.of_ro hr, fun i g x hf hx => ?_⟩
  by_cases q : i < fs.length
  · rw [List.getElem?_append_left q] at hf
    rw [List.getElem?_append_left (by omega)] at hx
    obtain ⟨e1, e2, e3⟩ := h.el i g x hf hx
    exact ⟨e1, e2, Rx.of_ro (e3.fr hF (fun k hk e => (h.eb i x k hx hk).2 e))⟩
  · have hi : i = fs.length := by have := (List.getElem?_eq_some_iff.1 hf).1; simp at this; omega
    subst hi
    rw [List.getElem?_append_right (Nat.le_refl _), Nat.sub_self] at hf
    rw [List.getElem?_append_right (by omega), hl, Nat.sub_self] at hx
    cases hf; cases hx
    exact ⟨rfl, rfl, hs⟩
theorem bool_eqlF : ∀ (b c : Bool) (w : World), (binOp .eql 4 (.bool b) (.bool c)).run Try.prog w = .ok (.bool (b == c)) w := fun b c w => by cases b <;> cases c <;> kernel_rfl
end Go.Proofs.Ytfcgpafjhifogab
