/-
  FramesRound, over what came in.
-/
import Derived.Test.YtfcgpafjhifogabMIn
import Derived.Test.YtfcgpafjhifogabRnd
namespace Go.Proofs.Ytfcgpafjhifogab
open Go.ChangeShapes Go.WideShapes Go.ChangeAt Go.RowKit Go.Joins
set_option linter.unusedVariables false
namespace into
theorem cellsE : Try.prog.cellsOf 31 = 4 := by kernel_rfl
section
variable {H : Type} {enc : TypeId × Value → H} {W : World}
set_option maxRecDepth 100000 in
/-- What is entered, as it came in. -/
theorem inE {base : Nat} {v : Value} {d : DataW H} {p : List MemPlace} (hv : Value.okWide Try.prog W .any base 31 v) (h : DataW.Trod enc Try.prog W 0 (fun _ => true) true 31 v d p) (hb : Rows.uptoBulk d ≤ 1048576) :
    ∃ (fn : Int) (args : List (Int × Int)) (av : Value) (x : Int × Int), v = .agg #[.int .i64 fn, av, .int .i64 x.1, .int .i64 x.2] ∧ Rx W 2 av args.length (flt enI args) ∧ args.length < 1048576 ∧ okI x := by
  obtain ⟨fuel, hf⟩ := h
  obtain ⟨cs, rfl, hcs⟩ := okWide_struct Try.underlying31 hv
  rw [cellsE] at hcs
  obtain ⟨cl⟩ := cs
  simp only [Value.cells] at hf
  obtain ⟨xs, m, _, hd, _, hxl, hfs⟩ := DataW.trod_struct Try.underlying31 hf
  have hd1 := ((Prod.mk.injEq _ _ _ _).mp hd).1
  match xs, hxl, cl, hcs with
  | [y0, y1, y2], _, [c0, c1, c2, c3], _ =>
    have g0 := hfs 0 _ rfl
    have g1 := hfs 1 _ rfl
    have g2 := hfs 2 _ rfl
    simp [cells3, cellsVs, cellsV] at g0 g1 g2
    obtain ⟨k, e0, _, wk⟩ := DataW.trod_int Try.underlying3 g0
    simp at e0
    subst e0
    obtain ⟨l2, d2, r2, x2, n2, s2, o2⟩ := rows_cell zI (by omega) ((0 : Int), (0 : Int)) Try.underlying27 cellsV (fun p _ => okI p) val_cells g1
    obtain ⟨x, e1, hx⟩ := val_cells _ _ _ rfl g2
    have bs : Rows.uptoBulk y1.1 ≤ 1048576 := by
      rw [hd1, Rows.uptoBulk] at hb
      have := bulk_part (List.mem_map.2 ⟨y1, by simp, rfl⟩ : y1.1 ∈ [y0, y1, y2].map (·.1))
      omega
    simp only [enI, List.cons.injEq, and_true] at e1
    obtain ⟨rfl, rfl⟩ := e1
    exact ⟨k, l2, c1, x, rfl, x2, Nat.lt_of_lt_of_le (less_of s2 n2) bs, hx⟩
end
end into
theorem roundIn {w : World} {pv lv tv : Value} {p : Pg} {fs : List Fm} {fn : Int} (h : PgV w pv p ∧ p.funcs.length ≤ 1048576 ∧ p.consts.length ≤ 1048576 ∧ (∀ (i : Nat) (f : Fc), p.funcs[i]? = some f → into.okF f) ∧ ∀ c ∈ p.consts, into.okC c)
    (hl : FsV w lv fs ∧ fs.length < 1048576 ∧ ∀ f ∈ fs, into.okM f) (ht : ∃ (args : List (Int × Int)) (av : Value) (x : Int × Int), tv = .agg #[.int .i64 fn, av, .int .i64 x.1, .int .i64 x.2] ∧ Rx w 2 av args.length (flt enI args) ∧ args.length < 1048576 ∧ into.okI x) :
    Calls Try.prog 3 #[pv, lv, tv] w fun e w' => e = .returned (.bool true) ∧ Below w.heap.size w w' := by
  obtain ⟨args, av, x, rfl, h1, h2, _⟩ := ht
  exact roundLaw fn x h.1 hl.1 h1 h.2.1 hl.2.1 (fun g hg => (hl.2.2 g hg).1) h2
end Go.Proofs.Ytfcgpafjhifogab
