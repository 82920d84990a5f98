/-
  A program, read by its parts.
-/
import Derived.Test.YtpceokegcjombaaDoorPRow
namespace Go.Proofs.YtpceokegcjombaaDoor
open Go.RowKit
set_option linter.unusedVariables false
theorem Below.drawn {B : Nat} {w w' : World} (h : Below B w w') : Below B w w'.drew := ⟨h.os, h.tape, h.output, h.size, h.block⟩
theorem FnV.parts {w : World} {f : Fc} {x : Fv} (h : FnV w f x) : ∃ a1 c1 a2 c2, x = ⟨f.name, f.params, f.locals, .slice a1 f.code.length c1, .slice a2 f.hs.length c2⟩ := by
  obtain ⟨e1, e2, e3, ⟨_, a1, c1, e4, _⟩, ⟨_, a2, c2, e5, _⟩⟩ := h
  obtain ⟨x1, x2, x3, x4, x5⟩ := x
  simp only at e1 e2 e3 e4 e5
  subst e1 e2 e3 e4 e5
  exact ⟨a1, c1, a2, c2, rfl⟩
theorem Rfs.at {w : World} {v : Value} {fs : List Fc} (h : Rfs w v fs) : ∃ a cap, v = .slice a fs.length cap ∧ fs.length ≤ cap ∧ cap ≤ maxLen ∧ ∀ (i : Nat) (f : Fc), fs[i]? = some f → ∃ b off x, a = some ⟨b, off, none⟩ ∧ b < w.heap.size ∧ FnV w f x ∧ ∀ (j : Nat) u, (enF x)[j]? = some u → w.cell? ⟨b, off + i * 5 + j, none⟩ = some u := by
  obtain ⟨xs, h1, h2, h3⟩ := h
  have h4 := fun i p (hp : xs[i]? = some p) => h2.elem zF hp
  obtain ⟨_, a, cap, e, hl, hm, _⟩ := h2
  refine ⟨a, cap, by rw [e, h1], by omega, hm, fun i f hf => ?_⟩
  have hi := (List.getElem?_eq_some_iff.1 hf).1
  have hx : xs[i]? = some (xs[i]'(by omega)) := List.getElem?_eq_getElem (by omega)
  obtain ⟨b, off, cap', e', _, _, hb, hc⟩ := h4 i _ hx
  rw [e] at e'
  cases e'
  exact ⟨b, off, _, rfl, hb, h3 i f _ hf hx, hc⟩
/-- A program of whose functions the names are known. -/
def PgN (w : World) (v : Value) (ns : List ByteArray) : Prop :=
  ∃ ca cn ccap a cap, v = .agg #[.slice ca cn ccap, .slice a ns.length cap] ∧ ∀ (i : Nat) (nm : ByteArray), ns[i]? = some nm → ∃ b off pr lc a1 n1 c1 a2 n2 c2, a = some ⟨b, off, none⟩ ∧ b < w.heap.size ∧ ∀ (j : Nat) u, (enF ⟨nm, pr, lc, .slice a1 n1 c1, .slice a2 n2 c2⟩)[j]? = some u → w.cell? ⟨b, off + i * 5 + j, none⟩ = some u
theorem PgV.pgn {w : World} {v : Value} {p : Pg} (h : PgV w v p) : PgN w v (p.funcs.map (·.name)) := by
  obtain ⟨cv, fv, rfl, hc, hf⟩ := h
  obtain ⟨a, cap, rfl, _, _, hat⟩ := hf.at
  obtain ⟨_, ca, ccap, rfl, _, _, _⟩ := hc
  refine ⟨ca, _, ccap, a, cap, by rw [List.length_map], fun i nm hn => ?_⟩
  rw [List.getElem?_map, Option.map_eq_some_iff] at hn
  obtain ⟨f, hf, rfl⟩ := hn
  obtain ⟨b, off, x, e, hb, hx, c⟩ := hat i f hf
  obtain ⟨a1, c1, a2, c2, rfl⟩ := hx.parts
  exact ⟨b, off, _, _, a1, _, c1, a2, _, c2, e, hb, c⟩

end Go.Proofs.YtpceokegcjombaaDoor
