/-
  A state that came in, its values values of Go.
-/
import Derived.Test.YtadgiccfjppnfaaSIn
import Derived.Test.YtadgiccfjppnfaaPma
namespace Go.Proofs.Ytadgiccfjppnfaa.into
open Go.ChangeShapes Go.WideShapes Go.ChangeAt Go.RowKit Go.Joins
set_option linter.unusedVariables false
theorem okV_of {p : Int × Int} (h : okI p) : OkV p := ⟨WalkArith.wf_i64 (by have := h.1; unfold I64' at this; omega), WalkArith.wf_i64 (by have := h.2; unfold I64' at this; omega)⟩
section
variable {H : Type} {enc : TypeId × Value → H} {W : World}
theorem long_cells2 (n : Nat) (cs : List Value) (y : DataW H × List MemPlace) (hl : cs.length = 1) (h : DataW.trod enc Try.prog W 0 (fun _ => true) true n 2 cs = some y) : ∃ x : Int, cs = enL x ∧ OkV (4, x) := by
  obtain ⟨k, e0, rfl, wk⟩ := DataW.trod_int Try.underlying2 h
  exact ⟨k, e0, (by show (Lit.int .i64 4).wf = true; decide), wk⟩
/-- An object, out of its six cells. -/
def GO2 (H : Type) (W : World) (x : Obv) (d : DataW H) : Prop := ∃ o : Ob, ObV W o x ∧ o.its.length < Rows.uptoBulk d ∧ o.keys.length < Rows.uptoBulk d ∧ (∀ v ∈ o.its, OkV v) ∧ ∀ k ∈ o.keys, OkV (4, k)
set_option maxRecDepth 100000 in
theorem ob_cells2 (n : Nat) (cs : List Value) (y : DataW H × List MemPlace) (hl : cs.length = 6) (h : DataW.trod enc Try.prog W 0 (fun _ => true) true n 43 cs = some y) : ∃ x : Obv, cs = enO x ∧ GO2 H W x y.1 := by
  obtain ⟨xs, q, _, hd, _, hxl, hfs⟩ := DataW.trod_struct Try.underlying43 h
  have hd1 : y.1 = _ := congrArg Prod.fst hd
  match xs, hxl, cs, hl with
  | [y0, y1, y2, y3, y4, y5], _, [c0, c1, c2, c3, c4, c5], _ =>
    have g0 := hfs 0 _ rfl
    have g1 := hfs 1 _ rfl
    have g2 := hfs 2 _ rfl
    have g3 := hfs 3 _ rfl
    have g4 := hfs 4 _ rfl
    have g5 := hfs 5 _ rfl
    simp [cells3, cellsVs, cells41, cells4] at g0 g1 g2 g3 g4 g5
    obtain ⟨k0, e0, _, _⟩ := DataW.trod_int Try.underlying3 g0
    obtain ⟨k3, e3, _, _⟩ := DataW.trod_int Try.underlying3 g3
    obtain ⟨k4, e4, _, _⟩ := DataW.trod_int Try.underlying3 g4
    obtain ⟨k5, e5, _⟩ := DataW.trod_bool Try.underlying4 g5
    simp at e0 e3 e4 e5
    subst e0 e3 e4 e5
    obtain ⟨l1, d1, r1, x1, n1, s1, o1⟩ := rows_cell zI (by omega) ((0 : Int), (0 : Int)) Try.underlying36 cellsV (fun p _ => okI p) val_cells g1
    obtain ⟨l2, d2, r2, x2, n2, s2, o2⟩ := rows_cell zL (by omega) (0 : Int) Try.underlying41 cells2 (fun p _ => OkV (4, p)) long_cells2 g2
    have bs : ∀ z ∈ [y0, y1, y2, y3, y4, y5], Rows.uptoBulk z.1 ≤ Rows.uptoBulk y.1 := fun z hz => by
      rw [hd1, Rows.uptoBulk]
      have := bulk_part (List.mem_map.2 ⟨z, hz, rfl⟩ : z.1 ∈ [y0, y1, y2, y3, y4, y5].map (·.1))
      omega
    exact ⟨⟨k0, c1, c2, k3, k4, k5⟩, rfl, ⟨k0, l1, l2, k3, k4, k5⟩, ⟨rfl, rfl, rfl, rfl, x1, x2⟩, Nat.lt_of_lt_of_le (less_of s1 n1) (bs y1 (by simp)), Nat.lt_of_lt_of_le (less_of s2 n2) (bs y2 (by simp)), fun v hv => by obtain ⟨i, hi, rfl⟩ := List.getElem_of_mem hv; obtain ⟨_, _, h⟩ := o1 i _ (List.getElem?_eq_getElem hi); exact okV_of h, fun v hv => by obtain ⟨i, hi, rfl⟩ := List.getElem_of_mem hv; obtain ⟨_, _, h⟩ := o2 i _ (List.getElem?_eq_getElem hi); exact h⟩
/-- A fiber, out of its one cell. -/
def GB2 (H : Type) (W : World) (x : Value) (d : DataW H) : Prop := ∃ fs : List Fm, FsV W x fs ∧ fs.length < Rows.uptoBulk d ∧ (∀ f ∈ fs, f.sl.length < Rows.uptoBulk d) ∧ ∀ f ∈ fs, ∀ v ∈ f.sl, OkV v
set_option maxRecDepth 100000 in
theorem fib_cells2 (n : Nat) (cs : List Value) (y : DataW H × List MemPlace) (hl : cs.length = 1) (h : DataW.trod enc Try.prog W 0 (fun _ => true) true n 35 cs = some y) : ∃ x : Value, cs = enV x ∧ GB2 H W x y.1 := by
  obtain ⟨xs, q, _, hd, _, hxl, hfs⟩ := DataW.trod_struct Try.underlying35 h
  have hd1 : y.1 = _ := congrArg Prod.fst hd
  match xs, hxl, cs, hl with
  | [y0], _, [c0], _ =>
    have g0 := hfs 0 _ rfl
    simp [cells33] at g0
    have b0 : Rows.uptoBulk y0.1 ≤ Rows.uptoBulk y.1 := by
      rw [hd1, Rows.uptoBulk]
      have := bulk_part (List.mem_map.2 ⟨y0, by simp, rfl⟩ : y0.1 ∈ [y0].map (·.1))
      omega
    obtain ⟨l1, ds, rs, x1, n1, s1, o1⟩ := rows_cell zM (by omega) (⟨0, 0, .slice none 0 0⟩ : Fmv) Try.underlying33 cellsM (GM H W) fm_cells g0
    obtain ⟨fs, f1, f2⟩ := pick_row (U := Fm) l1 (fun i x f => FmV W f x ∧ f.sl.length < Rows.uptoBulk y.1 ∧ ∀ v ∈ f.sl, OkV v) (fun i x hx => by
      obtain ⟨dd, hdd, f, hf, b1, _, _, bk⟩ := o1 i x hx
      refine ⟨f, hf, Nat.lt_of_lt_of_le b1 ?_, fun v hv => okV_of (bk v hv)⟩
      rcases s1 with e | ⟨e, _⟩
      · refine Nat.le_trans ?_ b0
        rw [e, Rows.uptoBulk]
        have := bulk_part (List.mem_of_getElem? hdd)
        omega
      · rw [e] at hdd; simp at hdd)
    refine ⟨c0, rfl, fs, ⟨l1, f1.symm, x1, fun i f x hf hx => (f2 i f x hf hx).1⟩, ?_, fun f hf => ?_, fun f hf => ?_⟩
    · rw [f1]; exact Nat.lt_of_lt_of_le (less_of s1 n1) b0
    · obtain ⟨i, hi, rfl⟩ := List.getElem_of_mem hf
      exact (f2 i _ _ (List.getElem?_eq_getElem hi) (List.getElem?_eq_getElem (by omega))).2.1
    · obtain ⟨i, hi, rfl⟩ := List.getElem_of_mem hf
      exact (f2 i _ _ (List.getElem?_eq_getElem hi) (List.getElem?_eq_getElem (by omega))).2.2
set_option maxRecDepth 100000 in
/-- A state that came in. -/
theorem inS2 {base : Nat} {v : Value} {d : DataW H} {p : List MemPlace} (hv : Value.okWide Try.prog W .any base 26 v) (h : DataW.Trod enc Try.prog W 0 (fun _ => true) true 26 v d p) (hb : Rows.uptoBulk d ≤ 1048576) :
    ∃ s : St, StV W v s ∧ StB s ∧ StI s := by
  obtain ⟨fuel, hf⟩ := h
  obtain ⟨cs, rfl, hcs⟩ := okWide_struct Try.underlying26 hv
  rw [cellsS] at hcs
  obtain ⟨cl⟩ := cs
  simp only [Value.cells] at hf
  obtain ⟨xs, m, _, hd, _, hxl, hfs⟩ := DataW.trod_struct Try.underlying26 hf
  have hd1 := ((Prod.mk.injEq _ _ _ _).mp hd).1
  match xs, hxl, cl, hcs with
  | [y0, y1, y2, y3, y4, y5, y6], _, [c0, c1, c2, c3, c4, c5, c6], _ =>
    have g0 := hfs 0 _ rfl
    have g1 := hfs 1 _ rfl
    have g2 := hfs 2 _ rfl
    have g3 := hfs 3 _ rfl
    have g4 := hfs 4 _ rfl
    have g5 := hfs 5 _ rfl
    have g6 := hfs 6 _ rfl
    simp [cells3, cells22, cells23, cells24] at g0 g1 g2 g3 g4 g5 g6
    obtain ⟨k3, e3, _, _⟩ := DataW.trod_int Try.underlying3 g3
    obtain ⟨k4, e4, _, _⟩ := DataW.trod_int Try.underlying3 g4
    obtain ⟨k5, e5, _, _⟩ := DataW.trod_int Try.underlying3 g5
    obtain ⟨k6, e6, _, _⟩ := DataW.trod_int Try.underlying3 g6
    simp at e3 e4 e5 e6
    subst e3 e4 e5 e6
    have bs : ∀ z ∈ [y0, y1, y2, y3, y4, y5, y6], Rows.uptoBulk z.1 ≤ 1048576 := fun z hz => by
      rw [hd1, Rows.uptoBulk] at hb
      have := bulk_part (List.mem_map.2 ⟨z, hz, rfl⟩ : z.1 ∈ [y0, y1, y2, y3, y4, y5, y6].map (·.1))
      omega
    obtain ⟨l0, d0, r0, x0, n0, s0, o0⟩ := rows_cell zT (by omega) ByteArray.empty Try.underlying22 cells9 (fun p _ => True) text_cells g0
    obtain ⟨l1, d1, r1, x1, n1, s1, o1⟩ := rows_cell zO (by omega) (⟨0, .slice none 0 0, .slice none 0 0, 0, 0, false⟩ : Obv) Try.underlying23 cellsO (GO2 H W) ob_cells2 g1
    obtain ⟨l2, d2, r2, x2, n2, s2, o2⟩ := rows_cell zV (by omega) (.slice none 0 0 : Value) Try.underlying24 cellsB (GB2 H W) fib_cells2 g2
    have part : ∀ {ds rs : List (DataW H)} {dd : DataW H} {yy : DataW H} {i : Nat}, (yy = .slice ds rs ∨ (ds = [] ∧ yy = .nil)) → ds[i]? = some dd → Rows.uptoBulk yy ≤ 1048576 → Rows.uptoBulk dd ≤ 1048576 := fun {ds rs dd yy i} hs hdd hy => by
      rcases hs with e | ⟨e, _⟩
      · rw [e, Rows.uptoBulk] at hy
        have := bulk_part (List.mem_of_getElem? hdd)
        omega
      · rw [e] at hdd; simp at hdd
    obtain ⟨os, q1, q2⟩ := pick_row (U := Ob) l1 (fun i x o => ObV W o x ∧ (o.its.length ≤ 1048576 ∧ o.keys.length ≤ 1048576) ∧ (∀ v ∈ o.its, OkV v) ∧ ∀ k ∈ o.keys, OkV (4, k)) (fun i x hx => by
      obtain ⟨dd, hdd, o, ho, b1, b2, b3⟩ := o1 i x hx
      have := part s1 hdd (bs y1 (by simp))
      exact ⟨o, ho, ⟨by omega, by omega⟩, b3⟩)
    obtain ⟨fb, u1, u2⟩ := pick_row (U := List Fm) l2 (fun i x b => FsV W x b ∧ (b.length ≤ 1048576 ∧ ∀ f ∈ b, f.sl.length ≤ 1048576) ∧ ∀ f ∈ b, ∀ v ∈ f.sl, OkV v) (fun i x hx => by
      obtain ⟨dd, hdd, b, hb', b1, b2, b3⟩ := o2 i x hx
      have := part s2 hdd (bs y2 (by simp))
      exact ⟨b, hb', ⟨by omega, fun f hf => by have := b2 f hf; omega⟩, b3⟩)
    refine ⟨⟨l0, os, fb, k3, k4, k5, k6⟩, ⟨c0, c1, c2, rfl, x0, ⟨l1, q1.symm, x1, fun i o x ho hx => (q2 i o x ho hx).1⟩, ⟨l2, u1.symm, x2, fun i b x hb' hx => (u2 i b x hb' hx).1⟩⟩, ⟨Nat.le_of_lt (Nat.lt_of_lt_of_le (less_of s0 n0) (bs y0 (by simp))), ?_, ?_, fun o ho => ?_, fun b hb' => ?_⟩, ⟨fun o ho => ?_, fun b hb' => ?_⟩⟩
    · show os.length ≤ 1048576
      rw [q1]; exact Nat.le_of_lt (Nat.lt_of_lt_of_le (less_of s1 n1) (bs y1 (by simp)))
    · show fb.length ≤ 1048576
      rw [u1]; exact Nat.le_of_lt (Nat.lt_of_lt_of_le (less_of s2 n2) (bs y2 (by simp)))
    · obtain ⟨i, hi, rfl⟩ := List.getElem_of_mem ho
      exact (q2 i _ _ (List.getElem?_eq_getElem hi) (List.getElem?_eq_getElem (by rw [← q1]; exact hi))).2.1
    · obtain ⟨i, hi, rfl⟩ := List.getElem_of_mem hb'
      exact (u2 i _ _ (List.getElem?_eq_getElem hi) (List.getElem?_eq_getElem (by rw [← u1]; exact hi))).2.1
    · obtain ⟨i, hi, rfl⟩ := List.getElem_of_mem ho
      exact (q2 i _ _ (List.getElem?_eq_getElem hi) (List.getElem?_eq_getElem (by rw [← q1]; exact hi))).2.2
    · obtain ⟨i, hi, rfl⟩ := List.getElem_of_mem hb'
      exact (u2 i _ _ (List.getElem?_eq_getElem hi) (List.getElem?_eq_getElem (by rw [← u1]; exact hi))).2.2
end
end Go.Proofs.Ytadgiccfjppnfaa.into
