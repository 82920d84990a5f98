/-
  Frames, a value, what is thrown, that came in.
-/
import Derived.Test.YtadgiccfjppnfaaPIn
import Derived.Test.YtadgiccfjppnfaaFms
namespace Go.Proofs.Ytadgiccfjppnfaa.into
open Go.ChangeShapes Go.WideShapes Go.ChangeAt Go.RowKit Go.Joins
set_option linter.unusedVariables false
theorem cellsV : Try.prog.cellsOf 40 = 2 := by kernel_rfl
theorem cellsVs : Try.prog.cellsOf 36 = 1 := by kernel_rfl
theorem cellsM : Try.prog.cellsOf 38 = 3 := by kernel_rfl
theorem cellsMs : Try.prog.cellsOf 33 = 1 := by kernel_rfl
section
variable {H : Type} {enc : TypeId × Value → H} {W : World}
set_option maxRecDepth 100000 in
theorem val_cells (n : Nat) (cs : List Value) (y : DataW H × List MemPlace) (hl : cs.length = 2) (h : DataW.trod enc Try.prog W 0 (fun _ => true) true n 40 cs = some y) : ∃ x : Int × Int, cs = enI x ∧ okI x := by
  obtain ⟨xs, q, _, rfl, _, hxl, hfs⟩ := DataW.trod_struct Try.underlying40 h
  match xs, hxl, cs, hl with
  | [y0, y1], _, [c0, c1], _ =>
    have g0 := hfs 0 _ rfl
    have g1 := hfs 1 _ rfl
    simp [cells3, cells2] at g0 g1
    obtain ⟨k, e0, rfl, wk⟩ := DataW.trod_int Try.underlying3 g0
    obtain ⟨m, e1, rfl, wm⟩ := DataW.trod_int Try.underlying2 g1
    simp at e0 e1
    subst e0 e1
    exact ⟨(k, m), rfl, i64_of wk, i64_of wm⟩
theorem less_of {ds rs : List (DataW H)} {y : DataW H} {n : Nat} (h : y = .slice ds rs ∨ (ds = [] ∧ y = .nil)) (hn : n = ds.length) : n < Rows.uptoBulk y := by
  rcases h with rfl | ⟨rfl, rfl⟩
  · rw [Rows.uptoBulk]
    have := bulk_len ds
    omega
  · simp at hn; subst hn; exact bulk_one _
/-- A frame, out of its three cells. -/
def GM (H : Type) (W : World) (x : Fmv) (d : DataW H) : Prop := ∃ f : Fm, FmV W f x ∧ f.sl.length < Rows.uptoBulk d ∧ I64' f.fn ∧ I64' f.pc ∧ ∀ p ∈ f.sl, okI p
set_option maxRecDepth 100000 in
theorem fm_cells (n : Nat) (cs : List Value) (y : DataW H × List MemPlace) (hl : cs.length = 3) (h : DataW.trod enc Try.prog W 0 (fun _ => true) true n 38 cs = some y) : ∃ x : Fmv, cs = enM x ∧ GM H W x y.1 := by
  obtain ⟨xs, q, _, hd, _, hxl, hfs⟩ := DataW.trod_struct Try.underlying38 h
  have hd1 : y.1 = _ := congrArg Prod.fst hd
  match xs, hxl, cs, hl with
  | [y0, y1, y2], _, [c0, c1, c2], _ =>
    have g0 := hfs 0 _ rfl
    have g1 := hfs 1 _ rfl
    have g2 := hfs 2 _ rfl
    simp [cells3, cellsVs] at g0 g1 g2
    obtain ⟨k, e0, _, wk⟩ := DataW.trod_int Try.underlying3 g0
    obtain ⟨m, e1, _, wm⟩ := DataW.trod_int Try.underlying3 g1
    simp at e0 e1
    subst e0 e1
    obtain ⟨l2, d2, r2, x2, n2, s2, o2⟩ := rows_cell zI (by omega) ((0 : Int), (0 : Int)) Try.underlying36 cellsV (fun p _ => okI p) val_cells g2
    have bs : Rows.uptoBulk y2.1 ≤ Rows.uptoBulk y.1 := by
      rw [hd1, Rows.uptoBulk]
      have := bulk_part (List.mem_map.2 ⟨y2, by simp, rfl⟩ : y2.1 ∈ [y0, y1, y2].map (·.1))
      omega
    refine ⟨⟨k, m, c2⟩, rfl, ⟨k, m, l2⟩, ⟨rfl, rfl, x2⟩, Nat.lt_of_lt_of_le (less_of s2 n2) bs, i64_of wk, i64_of wm, fun p hp => ?_⟩
    obtain ⟨i, hi, rfl⟩ := List.getElem_of_mem hp
    obtain ⟨_, _, h⟩ := o2 i _ (List.getElem?_eq_getElem hi)
    exact h
def okM (f : Fm) : Prop := f.sl.length < 1048576 ∧ I64' f.fn ∧ I64' f.pc ∧ ∀ p ∈ f.sl, okI p
set_option maxRecDepth 100000 in
/-- Frames that came in. -/
theorem inFs {base : Nat} {v : Value} {d : DataW H} {p : List MemPlace} (hv : Value.okWide Try.prog W .any base 33 v) (h : DataW.Trod enc Try.prog W 0 (fun _ => true) true 33 v d p) (hb : Rows.uptoBulk d ≤ 1048576) :
    ∃ fs : List Fm, FsV W v fs ∧ fs.length < 1048576 ∧ ∀ f ∈ fs, okM f := by
  obtain ⟨fuel, hf⟩ := h
  obtain ⟨a0, len0, cap0, rfl⟩ := okWide_slice Try.underlying33 hv
  simp only [Value.cells] at hf
  obtain ⟨l1, ds, rs, x1, n1, s1, o1⟩ := rows_cell zM (by omega) (⟨0, 0, .slice none 0 0⟩ : Fmv) Try.underlying33 cellsM (GM H W) fm_cells hf
  have hex : ∀ i, ∃ f : Fm, i < l1.length → ∃ x, l1[i]? = some x ∧ FmV W f x ∧ okM f := fun i => by
    by_cases hi : i < l1.length
    · obtain ⟨dd, hdd, f, hf, b1, rest⟩ := o1 i _ (List.getElem?_eq_getElem hi)
      have hbd : Rows.uptoBulk dd ≤ 1048576 := by
        rcases s1 with e | ⟨e, _⟩
        · have e' : d = .slice ds rs := e
          rw [e', Rows.uptoBulk] at hb
          have := bulk_part (List.mem_of_getElem? hdd)
          omega
        · rw [e] at hdd; simp at hdd
      exact ⟨f, fun _ => ⟨_, List.getElem?_eq_getElem hi, hf, by omega, rest⟩⟩
    · exact ⟨⟨0, 0, []⟩, fun h => absurd h hi⟩
  obtain ⟨F, hF⟩ := Classical.axiomOfChoice hex
  have hat : ∀ (i : Nat) (f : Fm), ((List.range l1.length).map F)[i]? = some f → i < l1.length ∧ f = F i := fun i f hf => by
    have hi : i < l1.length := by have := (List.getElem?_eq_some_iff.1 hf).1; simpa using this
    exact ⟨hi, by simp [hi] at hf; exact hf.symm⟩
  refine ⟨(List.range l1.length).map F, ⟨l1, by simp, x1, fun i f x hf hx => ?_⟩, ?_, fun f hf => ?_⟩
  · obtain ⟨hi, rfl⟩ := hat i f hf
    obtain ⟨x', hx', h1, _⟩ := hF i hi
    rw [hx] at hx'
    cases hx'
    exact h1
  · rw [List.length_map, List.length_range]
    exact Nat.lt_of_lt_of_le (less_of s1 n1) hb
  · obtain ⟨i, hi, rfl⟩ := List.getElem_of_mem hf
    obtain ⟨hi', e⟩ := hat i _ (List.getElem?_eq_getElem hi)
    rw [e]
    obtain ⟨_, _, _, h⟩ := hF i hi'
    exact h
set_option maxRecDepth 100000 in
/-- Values that came in. -/
theorem inVs {base : Nat} {v : Value} {d : DataW H} {p : List MemPlace} (hv : Value.okWide Try.prog W .any base 36 v) (h : DataW.Trod enc Try.prog W 0 (fun _ => true) true 36 v d p) (hb : Rows.uptoBulk d ≤ 1048576) :
    ∃ l : List (Int × Int), Rx W 2 v l.length (flt enI l) ∧ l.length < 1048576 ∧ ∀ p ∈ l, okI p := by
  obtain ⟨fuel, hf⟩ := h
  obtain ⟨a0, len0, cap0, rfl⟩ := okWide_slice Try.underlying36 hv
  simp only [Value.cells] at hf
  obtain ⟨l, ds, rs, hx, hl, hy, ho⟩ := rows_cell zI (by omega) ((0 : Int), (0 : Int)) Try.underlying36 cellsV (fun p _ => okI p) val_cells hf
  refine ⟨l, hx, Nat.lt_of_lt_of_le (less_of hy hl) hb, fun x hx => ?_⟩
  obtain ⟨i, hi, rfl⟩ := List.getElem_of_mem hx
  obtain ⟨_, _, h⟩ := ho i _ (List.getElem?_eq_getElem hi)
  exact h
set_option maxRecDepth 100000 in
/-- A value that came in. -/
theorem inV {base : Nat} {v : Value} {d : DataW H} {p : List MemPlace} (hv : Value.okWide Try.prog W .any base 40 v) (h : DataW.Trod enc Try.prog W 0 (fun _ => true) true 40 v d p) (hb : Rows.uptoBulk d ≤ 1048576) :
    ∃ x : Int × Int, v = .agg #[.int .i64 x.1, .int .i64 x.2] ∧ okI x := by
  obtain ⟨fuel, hf⟩ := h
  obtain ⟨cs, rfl, hcs⟩ := okWide_struct Try.underlying40 hv
  rw [cellsV] at hcs
  obtain ⟨cl⟩ := cs
  simp only [Value.cells] at hf
  obtain ⟨x, e, hx⟩ := val_cells _ cl _ hcs hf
  subst e
  exact ⟨x, rfl, hx⟩
end
end Go.Proofs.Ytadgiccfjppnfaa.into
