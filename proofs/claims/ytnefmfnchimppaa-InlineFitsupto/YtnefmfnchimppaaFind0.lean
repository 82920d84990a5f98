/-
  A program, read by its parts.
-/
import Derived.Test.YtnefmfnchimppaaPRow
namespace Go.Proofs.Ytnefmfnchimppaa
open Go.RowKit
set_option linter.unusedVariables false
theorem box2 {w wr : World} {u v : Value} {e : TypeId} (h : Below (w.heap.size + 1) (w.alloc (.cells #[u, v] e)) wr) : wr.cell? ⟨w.heap.size, 0, none⟩ = some u ∧ wr.cell? ⟨w.heap.size, 1, none⟩ = some v ∧ Below w.heap.size w wr ∧ w.heap.size < wr.heap.size := by
  have hs := h.size
  simp only [World.size_alloc] at hs
  have n0 := new_cells w #[u, v] e 0 u rfl
  have n1 := new_cells w #[u, v] e 1 v rfl
  rw [Go.WideShapes.add_plain] at n0 n1
  exact ⟨(h.cell (p := ⟨w.heap.size, 0, none⟩) (Nat.lt_succ_self _)).trans n0, (h.cell (p := ⟨w.heap.size, 1, none⟩) (Nat.lt_succ_self _)).trans n1, ((Below.refl _ w).alloc (Nat.le_refl _) _).trans (h.mono (Nat.le_succ _)), by omega⟩
theorem FnV.parts {w : World} {f : Fc} {x : Fv} (h : FnV w f x) : ∃ a1 c1 a2 c2, x = ⟨f.name, f.params, f.locals, .slice a1 f.code.length c1, .slice a2 f.hs.length c2⟩ := by
  obtain ⟨e1, e2, e3, ⟨_, a1, c1, e4, _⟩, ⟨_, a2, c2, e5, _⟩⟩ := h
  obtain ⟨x1, x2, x3, x4, x5⟩ := x
  simp only at e1 e2 e3 e4 e5
  subst e1 e2 e3 e4 e5
  exact ⟨a1, c1, a2, c2, rfl⟩
theorem Rfs.at {w : World} {v : Value} {fs : List Fc} (h : Rfs w v fs) : ∃ a cap, v = .slice a fs.length cap ∧ fs.length ≤ cap ∧ cap ≤ maxLen ∧ ∀ (i : Nat) (f : Fc), fs[i]? = some f → ∃ b off x, a = some ⟨b, off, none⟩ ∧ b < w.heap.size ∧ FnV w f x ∧ ∀ (j : Nat) u, (enF x)[j]? = some u → w.cell? ⟨b, off + i * 5 + j, none⟩ = some u := by
  obtain ⟨xs, h1, h2, h3⟩ := h
  have h4 := fun i p (hp : xs[i]? = some p) => h2.elem zF hp
  obtain ⟨_, a, cap, e, hl, hm, _⟩ := h2
  refine ⟨a, cap, by rw [e, h1], by omega, hm, fun i f hf => ?_⟩
  have hi := (List.getElem?_eq_some_iff.1 hf).1
  have hx : xs[i]? = some (xs[i]'(by omega)) := List.getElem?_eq_getElem (by omega)
  obtain ⟨b, off, cap', e', _, _, hb, hc⟩ := h4 i _ hx
  rw [e] at e'
  cases e'
  exact ⟨b, off, _, rfl, hb, h3 i f _ hf hx, hc⟩
/-- A program of whose functions the names are known. -/
def PgN (w : World) (v : Value) (ns : List ByteArray) : Prop :=
  ∃ ca cn ccap a cap, v = .agg #[.slice ca cn ccap, .slice a ns.length cap] ∧ ∀ (i : Nat) (nm : ByteArray), ns[i]? = some nm → ∃ b off pr lc a1 n1 c1 a2 n2 c2, a = some ⟨b, off, none⟩ ∧ b < w.heap.size ∧ ∀ (j : Nat) u, (enF ⟨nm, pr, lc, .slice a1 n1 c1, .slice a2 n2 c2⟩)[j]? = some u → w.cell? ⟨b, off + i * 5 + j, none⟩ = some u
end Go.Proofs.Ytnefmfnchimppaa
