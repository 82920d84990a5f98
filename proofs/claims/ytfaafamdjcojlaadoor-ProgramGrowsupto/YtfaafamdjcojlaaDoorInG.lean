/-
  A growth that came in.
-/
import Derived.Test.YtfaafamdjcojlaaDoorInC
namespace Go.Proofs.YtfaafamdjcojlaaDoor
open Go.ChangeShapes Go.WideShapes Go.ChangeAt Go.RowKit Go.Joins
set_option linter.unusedVariables false
theorem into.cellsG : Tryd.prog.cellsOf 52 = 5 := by kernel_rfl
set_option maxRecDepth 100000 in
theorem into.inG {H : Type} {enc : TypeId × Value → H} {W : World} {base : Nat} {v : Value} {d : DataW H} {p : List MemPlace} (hv : Value.okWide Tryd.prog W .any base 52 v) (h : DataW.Trod enc Tryd.prog W 0 (fun _ => true) true 52 v d p) :
    ∃ (z : Int) (s : ByteArray) (c : Cn), v = .agg #[.int .i64 z, .string s, .int .i64 c.kind, .int .i64 c.n, .string c.text] ∧ s.size ≤ 9223372036854775807 ∧ OkC c := by
  obtain ⟨fuel, hf⟩ := h
  obtain ⟨cs, rfl, hcs⟩ := okWide_struct Tryd.underlying52 hv
  rw [into.cellsG] at hcs
  obtain ⟨cl⟩ := cs
  simp only [Value.cells] at hf
  obtain ⟨xs, m, _, hd, _, hxl, hfs⟩ := DataW.trod_struct Tryd.underlying52 hf
  match xs, hxl, cl, hcs with
  | [y0, y1, y2], _, [c0, c1, c2, c3, c4], _ =>
    have g0 := hfs 0 _ rfl
    have g1 := hfs 1 _ rfl
    have g2 := hfs 2 _ rfl
    simp [into.cells3, into.cells9, into.cellsC] at g0 g1 g2
    obtain ⟨z, e0, _, wz⟩ := DataW.trod_int Tryd.underlying3 g0
    obtain ⟨s, e1, _, ws⟩ := DataW.trod_string Tryd.underlying9 g1
    obtain ⟨x, e2, hx⟩ := into.con_cells _ _ _ rfl g2
    simp at e0 e1
    simp [enC] at e2
    obtain ⟨rfl, rfl, rfl⟩ := e2
    subst e0 e1
    have wf : ∀ k : Int, into.I64' k → (Lit.int .i64 k).wf = true := fun k hk => by
      unfold into.I64' at hk
      exact Go.WalkArith.wf_i64 ⟨by omega, by omega⟩
    exact ⟨z, s, x, rfl, ws, wf _ hx.1, wf _ hx.2.1, hx.2.2⟩
end Go.Proofs.YtfaafamdjcojlaaDoor
