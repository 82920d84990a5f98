/-
  A program of one function.
-/
import Derived.Test.YtiknljilfpekfaaDoorK1
namespace Go.Proofs.YtiknljilfpekfaaDoor
open Go.RowKit
set_option linter.unusedVariables false
set_option linter.unusedSimpArgs false
theorem B2n {w : World} {u v : Value} {t : TypeId} {b : Nat} (hb : w.heap.size = b) : Ro (w.alloc (.cells #[u, v] t)) 2 (.slice (some ⟨b, 0, none⟩) 1 1) 1 [u, v] := by
  subst hb
  exact ⟨rfl, .inr ⟨w.heap.size, 0, 1, #[u, v], t, rfl, heap_alloc_new _ _, by omega, by unfold maxLen; omega, by simp, fun j hj => by simp⟩⟩
theorem pgv1 {W : World} {f : Fc} {x : Fv} {b : Nat} (hF : FnV W f x) (hR : Ro W 5 (.slice (some ⟨b, 0, none⟩) 1 1) 1 (enF x)) : PgV W (.agg #[.slice none 0 0, .slice (some ⟨b, 0, none⟩) 1 1]) ⟨[], [f]⟩ := by
  refine ⟨_, _, rfl, by simpa [flt] using Rx.nil W 3, [x], rfl, by simpa [flt] using Rx.of_ro hR, fun i f' x' hf hx => ?_⟩
  have hi : i = 0 := by have := (List.getElem?_eq_some_iff.1 hf).1; simp at this; exact this
  subst hi
  simp at hf hx
  subst hf hx
  exact hF
set_option maxRecDepth 100000 in
set_option maxHeartbeats 1600000 in
theorem one_any {w : World} {f : Fc} {x : Fv} (h : FnV w f x) :
    Calls Tryd.prog 6 #[.agg #[.string x.name, .int .i64 x.params, .int .i64 x.locals, x.cv, x.hv]] w fun e w' => ∃ v, e = .returned v ∧ PgV w' v ⟨[], [f]⟩ ∧ Below w.heap.size w w' := by
  obtain ⟨nm, pr, lc, cv, hv⟩ := x
  have HF := hide h
  obtain ⟨e1, e2, e3, hc, hh⟩ := h
  simp only at e1 e2 e3
  subst e1 e2 e3
  obtain ⟨_, ca, ccap, ec, _, _, _⟩ := hc
  obtain ⟨_, ha, hcap, eh, _, _, _⟩ := hh
  simp only at ec eh
  subst ec eh
  obtain ⟨CL, hCL⟩ : ∃ n, Hid (f.code.length = n) := ⟨_, hide rfl⟩
  obtain ⟨HL, hHL⟩ : ∃ n, Hid (f.hs.length = n) := ⟨_, hide rfl⟩
  rw [unhide hCL, unhide hHL] at HF ⊢
  go_enter Tryd.func6, Tryd.ntmps6
  go_wp2_with fail
  refine bodyPost_ret (v := .agg #[.slice none 0 0, .slice (some ⟨w.heap.size + 1 + 1, 0, none⟩) 1 1]) ?_ rfl ?_
  · rw [results_cell_one rfl]
    go_simp
  · have B3 : Below w.heap.size w (((w.alloc (.cells #[.string f.name, .int .i64 f.params, .int .i64 f.locals, .slice ca CL ccap, .slice ha HL hcap] 25)).alloc (.cells #[.slice none 0 0, .slice (some ⟨w.heap.size + 1 + 1, 0, none⟩) 1 1] 41)).alloc (.cells #[.string f.name, .int .i64 f.params, .int .i64 f.locals, .slice ca CL ccap, .slice ha HL hcap] 25)) := (((Below.refl _ w).alloc (Nat.le_refl _) _).alloc (by simp) _).alloc (by simp; omega) _
    exact ⟨_, rfl, pgv1 (x := ⟨f.name, f.params, f.locals, .slice ca CL ccap, .slice ha HL hcap⟩) ((unhide HF).below B3 (Nat.le_refl _)) (by show Ro _ 5 _ 1 [_, _, _, _, _]; refine B5.new ?_; simp), B3⟩
end Go.Proofs.YtiknljilfpekfaaDoor
