/-
  FramesKinds, over what came in.
-/
import Derived.Test.YtfcgpafjhifogaaMIn
import Derived.Test.YtfcgpafjhifogaaKiL
namespace Go.Proofs.Ytfcgpafjhifogaa
open Go.ChangeShapes Go.WideShapes Go.ChangeAt Go.RowKit Go.Joins
set_option linter.unusedVariables false
namespace into
section
variable {H : Type} {enc : TypeId × Value → H} {W : World}
theorem int_cells (n : Nat) (cs : List Value) (y : DataW H × List MemPlace) (hl : cs.length = 1) (h : DataW.trod enc Try.prog W 0 (fun _ => true) true n 3 cs = some y) : ∃ x : Int, cs = enN x ∧ I64' x := by
  obtain ⟨k, e0, _, wk⟩ := DataW.trod_int Try.underlying3 h
  exact ⟨k, by simpa [enN] using e0, i64_of wk⟩
set_option maxRecDepth 100000 in
/-- Numbers that came in. -/
theorem inIs {base : Nat} {v : Value} {d : DataW H} {p : List MemPlace} (hv : Value.okWide Try.prog W .any base 50 v) (h : DataW.Trod enc Try.prog W 0 (fun _ => true) true 50 v d p) (hb : Rows.uptoBulk d ≤ 1048576) :
    ∃ l : List Int, Rx W 1 v l.length (flt enN l) ∧ l.length < 1048576 ∧ ∀ x ∈ l, I64' x := by
  obtain ⟨fuel, hf⟩ := h
  obtain ⟨a0, len0, cap0, rfl⟩ := okWide_slice Try.underlying50 hv
  simp only [Value.cells] at hf
  obtain ⟨l, ds, rs, hx, hl, hy, ho⟩ := rows_cell zN (by omega) (0 : Int) Try.underlying50 cells3 (fun x _ => I64' x) int_cells hf
  refine ⟨l, hx, Nat.lt_of_lt_of_le (less_of hy hl) hb, fun x hx => ?_⟩
  obtain ⟨i, hi, rfl⟩ := List.getElem_of_mem hx
  obtain ⟨_, _, h⟩ := ho i _ (List.getElem?_eq_getElem hi)
  exact h
end
end into
theorem kindsIn {w : World} {lv : Value} {s : List Int} (h : Rx w 1 lv s.length (flt enN s) ∧ s.length < 1048576 ∧ ∀ x ∈ s, into.I64' x) : Calls Try.prog 6 #[lv] w fun e w' => e = .returned (.bool true) ∧ Below w.heap.size w w' :=
  kindsLaw h.1 (Nat.le_of_lt h.2.1) (fun x hx => h.2.2 x hx)
end Go.Proofs.Ytfcgpafjhifogaa
