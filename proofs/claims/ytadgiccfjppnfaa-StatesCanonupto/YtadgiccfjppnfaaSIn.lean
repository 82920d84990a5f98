/-
  A state that came in.
-/
import Derived.Test.YtadgiccfjppnfaaPIn
import Derived.Test.YtadgiccfjppnfaaFms
import Derived.Test.YtadgiccfjppnfaaSms
namespace Go.Proofs.Ytadgiccfjppnfaa.into
open Go.ChangeShapes Go.WideShapes Go.ChangeAt Go.RowKit Go.Joins
set_option linter.unusedVariables false
theorem cellsV : Try.prog.cellsOf 40 = 2 := by kernel_rfl
theorem cellsVs : Try.prog.cellsOf 36 = 1 := by kernel_rfl
theorem cellsM : Try.prog.cellsOf 38 = 3 := by kernel_rfl
theorem cellsMs : Try.prog.cellsOf 33 = 1 := by kernel_rfl
section
variable {H : Type} {enc : TypeId × Value → H} {W : World}
set_option maxRecDepth 100000 in
theorem val_cells (n : Nat) (cs : List Value) (y : DataW H × List MemPlace) (hl : cs.length = 2) (h : DataW.trod enc Try.prog W 0 (fun _ => true) true n 40 cs = some y) : ∃ x : Int × Int, cs = enI x ∧ okI x := by
  obtain ⟨xs, q, _, rfl, _, hxl, hfs⟩ := DataW.trod_struct Try.underlying40 h
  match xs, hxl, cs, hl with
  | [y0, y1], _, [c0, c1], _ =>
    have g0 := hfs 0 _ rfl
    have g1 := hfs 1 _ rfl
    simp [cells3, cells2] at g0 g1
    obtain ⟨k, e0, rfl, wk⟩ := DataW.trod_int Try.underlying3 g0
    obtain ⟨m, e1, rfl, wm⟩ := DataW.trod_int Try.underlying2 g1
    simp at e0 e1
    subst e0 e1
    exact ⟨(k, m), rfl, i64_of wk, i64_of wm⟩
theorem less_of {ds rs : List (DataW H)} {y : DataW H} {n : Nat} (h : y = .slice ds rs ∨ (ds = [] ∧ y = .nil)) (hn : n = ds.length) : n < Rows.uptoBulk y := by
  rcases h with rfl | ⟨rfl, rfl⟩
  · rw [Rows.uptoBulk]
    have := bulk_len ds
    omega
  · simp at hn; subst hn; exact bulk_one _
/-- A frame, out of its three cells. -/
def GM (H : Type) (W : World) (x : Fmv) (d : DataW H) : Prop := ∃ f : Fm, FmV W f x ∧ f.sl.length < Rows.uptoBulk d ∧ I64' f.fn ∧ I64' f.pc ∧ ∀ p ∈ f.sl, okI p
set_option maxRecDepth 100000 in
theorem fm_cells (n : Nat) (cs : List Value) (y : DataW H × List MemPlace) (hl : cs.length = 3) (h : DataW.trod enc Try.prog W 0 (fun _ => true) true n 38 cs = some y) : ∃ x : Fmv, cs = enM x ∧ GM H W x y.1 := by
  obtain ⟨xs, q, _, hd, _, hxl, hfs⟩ := DataW.trod_struct Try.underlying38 h
  have hd1 : y.1 = _ := congrArg Prod.fst hd
  match xs, hxl, cs, hl with
  | [y0, y1, y2], _, [c0, c1, c2], _ =>
    have g0 := hfs 0 _ rfl
    have g1 := hfs 1 _ rfl
    have g2 := hfs 2 _ rfl
    simp [cells3, cellsVs] at g0 g1 g2
    obtain ⟨k, e0, _, wk⟩ := DataW.trod_int Try.underlying3 g0
    obtain ⟨m, e1, _, wm⟩ := DataW.trod_int Try.underlying3 g1
    simp at e0 e1
    subst e0 e1
    obtain ⟨l2, d2, r2, x2, n2, s2, o2⟩ := rows_cell zI (by omega) ((0 : Int), (0 : Int)) Try.underlying36 cellsV (fun p _ => okI p) val_cells g2
    have bs : Rows.uptoBulk y2.1 ≤ Rows.uptoBulk y.1 := by
      rw [hd1, Rows.uptoBulk]
      have := bulk_part (List.mem_map.2 ⟨y2, by simp, rfl⟩ : y2.1 ∈ [y0, y1, y2].map (·.1))
      omega
    refine ⟨⟨k, m, c2⟩, rfl, ⟨k, m, l2⟩, ⟨rfl, rfl, x2⟩, Nat.lt_of_lt_of_le (less_of s2 n2) bs, i64_of wk, i64_of wm, fun p hp => ?_⟩
    obtain ⟨i, hi, rfl⟩ := List.getElem_of_mem hp
    obtain ⟨_, _, h⟩ := o2 i _ (List.getElem?_eq_getElem hi)
    exact h
def okM (f : Fm) : Prop := f.sl.length < 1048576 ∧ I64' f.fn ∧ I64' f.pc ∧ ∀ p ∈ f.sl, okI p
set_option maxRecDepth 100000 in
/-- Frames that came in. -/
theorem inFs {base : Nat} {v : Value} {d : DataW H} {p : List MemPlace} (hv : Value.okWide Try.prog W .any base 33 v) (h : DataW.Trod enc Try.prog W 0 (fun _ => true) true 33 v d p) (hb : Rows.uptoBulk d ≤ 1048576) :
    ∃ fs : List Fm, FsV W v fs ∧ fs.length < 1048576 ∧ ∀ f ∈ fs, okM f := by
  obtain ⟨fuel, hf⟩ := h
  obtain ⟨a0, len0, cap0, rfl⟩ := okWide_slice Try.underlying33 hv
  simp only [Value.cells] at hf
  obtain ⟨l1, ds, rs, x1, n1, s1, o1⟩ := rows_cell zM (by omega) (⟨0, 0, .slice none 0 0⟩ : Fmv) Try.underlying33 cellsM (GM H W) fm_cells hf
  have hex : ∀ i, ∃ f : Fm, i < l1.length → ∃ x, l1[i]? = some x ∧ FmV W f x ∧ okM f := fun i => by
    by_cases hi : i < l1.length
    · obtain ⟨dd, hdd, f, hf, b1, rest⟩ := o1 i _ (List.getElem?_eq_getElem hi)
      have hbd : Rows.uptoBulk dd ≤ 1048576 := by
        rcases s1 with e | ⟨e, _⟩
        · have e' : d = .slice ds rs := e
          rw [e', Rows.uptoBulk] at hb
          have := bulk_part (List.mem_of_getElem? hdd)
          omega
        · rw [e] at hdd; simp at hdd
      exact ⟨f, fun _ => ⟨_, List.getElem?_eq_getElem hi, hf, by omega, rest⟩⟩
    · exact ⟨⟨0, 0, []⟩, fun h => absurd h hi⟩
  obtain ⟨F, hF⟩ := Classical.axiomOfChoice hex
  have hat : ∀ (i : Nat) (f : Fm), ((List.range l1.length).map F)[i]? = some f → i < l1.length ∧ f = F i := fun i f hf => by
    have hi : i < l1.length := by have := (List.getElem?_eq_some_iff.1 hf).1; simpa using this
    exact ⟨hi, by simp [hi] at hf; exact hf.symm⟩
  refine ⟨(List.range l1.length).map F, ⟨l1, by simp, x1, fun i f x hf hx => ?_⟩, ?_, fun f hf => ?_⟩
  · obtain ⟨hi, rfl⟩ := hat i f hf
    obtain ⟨x', hx', h1, _⟩ := hF i hi
    rw [hx] at hx'
    cases hx'
    exact h1
  · rw [List.length_map, List.length_range]
    exact Nat.lt_of_lt_of_le (less_of s1 n1) hb
  · obtain ⟨i, hi, rfl⟩ := List.getElem_of_mem hf
    obtain ⟨hi', e⟩ := hat i _ (List.getElem?_eq_getElem hi)
    rw [e]
    obtain ⟨_, _, _, h⟩ := hF i hi'
    exact h
set_option maxRecDepth 100000 in
/-- Values that came in. -/
theorem inVs {base : Nat} {v : Value} {d : DataW H} {p : List MemPlace} (hv : Value.okWide Try.prog W .any base 36 v) (h : DataW.Trod enc Try.prog W 0 (fun _ => true) true 36 v d p) (hb : Rows.uptoBulk d ≤ 1048576) :
    ∃ l : List (Int × Int), Rx W 2 v l.length (flt enI l) ∧ l.length < 1048576 ∧ ∀ p ∈ l, okI p := by
  obtain ⟨fuel, hf⟩ := h
  obtain ⟨a0, len0, cap0, rfl⟩ := okWide_slice Try.underlying36 hv
  simp only [Value.cells] at hf
  obtain ⟨l, ds, rs, hx, hl, hy, ho⟩ := rows_cell zI (by omega) ((0 : Int), (0 : Int)) Try.underlying36 cellsV (fun p _ => okI p) val_cells hf
  refine ⟨l, hx, Nat.lt_of_lt_of_le (less_of hy hl) hb, fun x hx => ?_⟩
  obtain ⟨i, hi, rfl⟩ := List.getElem_of_mem hx
  obtain ⟨_, _, h⟩ := ho i _ (List.getElem?_eq_getElem hi)
  exact h
set_option maxRecDepth 100000 in
/-- A value that came in. -/
theorem inV {base : Nat} {v : Value} {d : DataW H} {p : List MemPlace} (hv : Value.okWide Try.prog W .any base 40 v) (h : DataW.Trod enc Try.prog W 0 (fun _ => true) true 40 v d p) (hb : Rows.uptoBulk d ≤ 1048576) :
    ∃ x : Int × Int, v = .agg #[.int .i64 x.1, .int .i64 x.2] ∧ okI x := by
  obtain ⟨fuel, hf⟩ := h
  obtain ⟨cs, rfl, hcs⟩ := okWide_struct Try.underlying40 hv
  rw [cellsV] at hcs
  obtain ⟨cl⟩ := cs
  simp only [Value.cells] at hf
  obtain ⟨x, e, hx⟩ := val_cells _ cl _ hcs hf
  subst e
  exact ⟨x, rfl, hx⟩
end

set_option linter.unusedVariables false
theorem cells4 : Try.prog.cellsOf 4 = 1 := by kernel_rfl
theorem cells41 : Try.prog.cellsOf 41 = 1 := by kernel_rfl
theorem cells22 : Try.prog.cellsOf 22 = 1 := by kernel_rfl
theorem cells23 : Try.prog.cellsOf 23 = 1 := by kernel_rfl
theorem cells24 : Try.prog.cellsOf 24 = 1 := by kernel_rfl
theorem cells33 : Try.prog.cellsOf 33 = 1 := by kernel_rfl
theorem cellsO : Try.prog.cellsOf 43 = 6 := by kernel_rfl
theorem cellsB : Try.prog.cellsOf 35 = 1 := by kernel_rfl
theorem cellsS : Try.prog.cellsOf 26 = 7 := by kernel_rfl
/-- A list of what is known of each. -/
theorem pick_row {T U : Type} : ∀ (l : List T) (Q : Nat → T → U → Prop), (∀ (i : Nat) (x : T), l[i]? = some x → ∃ u, Q i x u) → ∃ us : List U, us.length = l.length ∧ ∀ (i : Nat) (u : U) (x : T), us[i]? = some u → l[i]? = some x → Q i x u
  | [], _, _ => ⟨[], rfl, fun i u x h => by simp at h⟩
  | y :: r, Q, h => by
    obtain ⟨v, hv⟩ := h 0 y rfl
    obtain ⟨us, h1, h2⟩ := pick_row r (fun i => Q (i + 1)) (fun i x hx => h (i + 1) x (by simpa using hx))
    refine ⟨v :: us, by simp [h1], fun i u x hu hx => ?_⟩
    cases i with
    | zero => simp at hu hx; subst hu hx; exact hv
    | succ i => exact h2 i u x (by simpa using hu) (by simpa using hx)
section
variable {H : Type} {enc : TypeId × Value → H} {W : World}
theorem long_cells (n : Nat) (cs : List Value) (y : DataW H × List MemPlace) (hl : cs.length = 1) (h : DataW.trod enc Try.prog W 0 (fun _ => true) true n 2 cs = some y) : ∃ x : Int, cs = enL x ∧ True := by
  obtain ⟨k, e0, rfl, wk⟩ := DataW.trod_int Try.underlying2 h
  exact ⟨k, e0, trivial⟩
theorem text_cells (n : Nat) (cs : List Value) (y : DataW H × List MemPlace) (hl : cs.length = 1) (h : DataW.trod enc Try.prog W 0 (fun _ => true) true n 9 cs = some y) : ∃ x : ByteArray, cs = enT x ∧ True := by
  obtain ⟨t, e0, rfl, wt⟩ := DataW.trod_string Try.underlying9 h
  exact ⟨t, e0, trivial⟩
/-- An object, out of its six cells. -/
def GO (H : Type) (W : World) (x : Obv) (d : DataW H) : Prop := ∃ o : Ob, ObV W o x ∧ o.its.length < Rows.uptoBulk d ∧ o.keys.length < Rows.uptoBulk d
set_option maxRecDepth 100000 in
theorem ob_cells (n : Nat) (cs : List Value) (y : DataW H × List MemPlace) (hl : cs.length = 6) (h : DataW.trod enc Try.prog W 0 (fun _ => true) true n 43 cs = some y) : ∃ x : Obv, cs = enO x ∧ GO H W x y.1 := by
  obtain ⟨xs, q, _, hd, _, hxl, hfs⟩ := DataW.trod_struct Try.underlying43 h
  have hd1 : y.1 = _ := congrArg Prod.fst hd
  match xs, hxl, cs, hl with
  | [y0, y1, y2, y3, y4, y5], _, [c0, c1, c2, c3, c4, c5], _ =>
    have g0 := hfs 0 _ rfl
    have g1 := hfs 1 _ rfl
    have g2 := hfs 2 _ rfl
    have g3 := hfs 3 _ rfl
    have g4 := hfs 4 _ rfl
    have g5 := hfs 5 _ rfl
    simp [cells3, cellsVs, cells41, cells4] at g0 g1 g2 g3 g4 g5
    obtain ⟨k0, e0, _, _⟩ := DataW.trod_int Try.underlying3 g0
    obtain ⟨k3, e3, _, _⟩ := DataW.trod_int Try.underlying3 g3
    obtain ⟨k4, e4, _, _⟩ := DataW.trod_int Try.underlying3 g4
    obtain ⟨k5, e5, _⟩ := DataW.trod_bool Try.underlying4 g5
    simp at e0 e3 e4 e5
    subst e0 e3 e4 e5
    obtain ⟨l1, d1, r1, x1, n1, s1, o1⟩ := rows_cell zI (by omega) ((0 : Int), (0 : Int)) Try.underlying36 cellsV (fun p _ => okI p) val_cells g1
    obtain ⟨l2, d2, r2, x2, n2, s2, o2⟩ := rows_cell zL (by omega) (0 : Int) Try.underlying41 cells2 (fun p _ => True) long_cells g2
    have bs : ∀ z ∈ [y0, y1, y2, y3, y4, y5], Rows.uptoBulk z.1 ≤ Rows.uptoBulk y.1 := fun z hz => by
      rw [hd1, Rows.uptoBulk]
      have := bulk_part (List.mem_map.2 ⟨z, hz, rfl⟩ : z.1 ∈ [y0, y1, y2, y3, y4, y5].map (·.1))
      omega
    exact ⟨⟨k0, c1, c2, k3, k4, k5⟩, rfl, ⟨k0, l1, l2, k3, k4, k5⟩, ⟨rfl, rfl, rfl, rfl, x1, x2⟩, Nat.lt_of_lt_of_le (less_of s1 n1) (bs y1 (by simp)), Nat.lt_of_lt_of_le (less_of s2 n2) (bs y2 (by simp))⟩
/-- A fiber, out of its one cell. -/
def GB (H : Type) (W : World) (x : Value) (d : DataW H) : Prop := ∃ fs : List Fm, FsV W x fs ∧ fs.length < Rows.uptoBulk d ∧ ∀ f ∈ fs, f.sl.length < Rows.uptoBulk d
set_option maxRecDepth 100000 in
theorem fib_cells (n : Nat) (cs : List Value) (y : DataW H × List MemPlace) (hl : cs.length = 1) (h : DataW.trod enc Try.prog W 0 (fun _ => true) true n 35 cs = some y) : ∃ x : Value, cs = enV x ∧ GB H W x y.1 := by
  obtain ⟨xs, q, _, hd, _, hxl, hfs⟩ := DataW.trod_struct Try.underlying35 h
  have hd1 : y.1 = _ := congrArg Prod.fst hd
  match xs, hxl, cs, hl with
  | [y0], _, [c0], _ =>
    have g0 := hfs 0 _ rfl
    simp [cells33] at g0
    have b0 : Rows.uptoBulk y0.1 ≤ Rows.uptoBulk y.1 := by
      rw [hd1, Rows.uptoBulk]
      have := bulk_part (List.mem_map.2 ⟨y0, by simp, rfl⟩ : y0.1 ∈ [y0].map (·.1))
      omega
    obtain ⟨l1, ds, rs, x1, n1, s1, o1⟩ := rows_cell zM (by omega) (⟨0, 0, .slice none 0 0⟩ : Fmv) Try.underlying33 cellsM (GM H W) fm_cells g0
    obtain ⟨fs, f1, f2⟩ := pick_row (U := Fm) l1 (fun i x f => FmV W f x ∧ f.sl.length < Rows.uptoBulk y.1) (fun i x hx => by
      obtain ⟨dd, hdd, f, hf, b1, _⟩ := o1 i x hx
      refine ⟨f, hf, Nat.lt_of_lt_of_le b1 ?_⟩
      rcases s1 with e | ⟨e, _⟩
      · refine Nat.le_trans ?_ b0
        rw [e, Rows.uptoBulk]
        have := bulk_part (List.mem_of_getElem? hdd)
        omega
      · rw [e] at hdd; simp at hdd)
    refine ⟨c0, rfl, fs, ⟨l1, f1.symm, x1, fun i f x hf hx => (f2 i f x hf hx).1⟩, ?_, fun f hf => ?_⟩
    · rw [f1]; exact Nat.lt_of_lt_of_le (less_of s1 n1) b0
    · obtain ⟨i, hi, rfl⟩ := List.getElem_of_mem hf
      exact (f2 i _ _ (List.getElem?_eq_getElem hi) (List.getElem?_eq_getElem (by omega))).2
set_option maxRecDepth 100000 in
/-- A state that came in. -/
theorem inS {base : Nat} {v : Value} {d : DataW H} {p : List MemPlace} (hv : Value.okWide Try.prog W .any base 26 v) (h : DataW.Trod enc Try.prog W 0 (fun _ => true) true 26 v d p) (hb : Rows.uptoBulk d ≤ 1048576) :
    ∃ s : St, StV W v s ∧ StB s := by
  obtain ⟨fuel, hf⟩ := h
  obtain ⟨cs, rfl, hcs⟩ := okWide_struct Try.underlying26 hv
  rw [cellsS] at hcs
  obtain ⟨cl⟩ := cs
  simp only [Value.cells] at hf
  obtain ⟨xs, m, _, hd, _, hxl, hfs⟩ := DataW.trod_struct Try.underlying26 hf
  have hd1 := ((Prod.mk.injEq _ _ _ _).mp hd).1
  match xs, hxl, cl, hcs with
  | [y0, y1, y2, y3, y4, y5, y6], _, [c0, c1, c2, c3, c4, c5, c6], _ =>
    have g0 := hfs 0 _ rfl
    have g1 := hfs 1 _ rfl
    have g2 := hfs 2 _ rfl
    have g3 := hfs 3 _ rfl
    have g4 := hfs 4 _ rfl
    have g5 := hfs 5 _ rfl
    have g6 := hfs 6 _ rfl
    simp [cells3, cells22, cells23, cells24] at g0 g1 g2 g3 g4 g5 g6
    obtain ⟨k3, e3, _, _⟩ := DataW.trod_int Try.underlying3 g3
    obtain ⟨k4, e4, _, _⟩ := DataW.trod_int Try.underlying3 g4
    obtain ⟨k5, e5, _, _⟩ := DataW.trod_int Try.underlying3 g5
    obtain ⟨k6, e6, _, _⟩ := DataW.trod_int Try.underlying3 g6
    simp at e3 e4 e5 e6
    subst e3 e4 e5 e6
    have bs : ∀ z ∈ [y0, y1, y2, y3, y4, y5, y6], Rows.uptoBulk z.1 ≤ 1048576 := fun z hz => by
      rw [hd1, Rows.uptoBulk] at hb
      have := bulk_part (List.mem_map.2 ⟨z, hz, rfl⟩ : z.1 ∈ [y0, y1, y2, y3, y4, y5, y6].map (·.1))
      omega
    obtain ⟨l0, d0, r0, x0, n0, s0, o0⟩ := rows_cell zT (by omega) ByteArray.empty Try.underlying22 cells9 (fun p _ => True) text_cells g0
    obtain ⟨l1, d1, r1, x1, n1, s1, o1⟩ := rows_cell zO (by omega) (⟨0, .slice none 0 0, .slice none 0 0, 0, 0, false⟩ : Obv) Try.underlying23 cellsO (GO H W) ob_cells g1
    obtain ⟨l2, d2, r2, x2, n2, s2, o2⟩ := rows_cell zV (by omega) (.slice none 0 0 : Value) Try.underlying24 cellsB (GB H W) fib_cells g2
    have part : ∀ {ds rs : List (DataW H)} {dd : DataW H} {yy : DataW H} {i : Nat}, (yy = .slice ds rs ∨ (ds = [] ∧ yy = .nil)) → ds[i]? = some dd → Rows.uptoBulk yy ≤ 1048576 → Rows.uptoBulk dd ≤ 1048576 := fun {ds rs dd yy i} hs hdd hy => by
      rcases hs with e | ⟨e, _⟩
      · rw [e, Rows.uptoBulk] at hy
        have := bulk_part (List.mem_of_getElem? hdd)
        omega
      · rw [e] at hdd; simp at hdd
    obtain ⟨os, q1, q2⟩ := pick_row (U := Ob) l1 (fun i x o => ObV W o x ∧ o.its.length ≤ 1048576 ∧ o.keys.length ≤ 1048576) (fun i x hx => by
      obtain ⟨dd, hdd, o, ho, b1, b2⟩ := o1 i x hx
      have := part s1 hdd (bs y1 (by simp))
      exact ⟨o, ho, by omega, by omega⟩)
    obtain ⟨fb, u1, u2⟩ := pick_row (U := List Fm) l2 (fun i x b => FsV W x b ∧ b.length ≤ 1048576 ∧ ∀ f ∈ b, f.sl.length ≤ 1048576) (fun i x hx => by
      obtain ⟨dd, hdd, b, hb', b1, b2⟩ := o2 i x hx
      have := part s2 hdd (bs y2 (by simp))
      exact ⟨b, hb', by omega, fun f hf => by have := b2 f hf; omega⟩)
    refine ⟨⟨l0, os, fb, k3, k4, k5, k6⟩, ⟨c0, c1, c2, rfl, x0, ⟨l1, q1.symm, x1, fun i o x ho hx => (q2 i o x ho hx).1⟩, ⟨l2, u1.symm, x2, fun i b x hb' hx => (u2 i b x hb' hx).1⟩⟩, ?_⟩
    refine ⟨Nat.le_of_lt (Nat.lt_of_lt_of_le (less_of s0 n0) (bs y0 (by simp))), ?_, ?_, fun o ho => ?_, fun b hb' => ?_⟩
    · show os.length ≤ 1048576
      rw [q1]; exact Nat.le_of_lt (Nat.lt_of_lt_of_le (less_of s1 n1) (bs y1 (by simp)))
    · show fb.length ≤ 1048576
      rw [u1]; exact Nat.le_of_lt (Nat.lt_of_lt_of_le (less_of s2 n2) (bs y2 (by simp)))
    · obtain ⟨i, hi, rfl⟩ := List.getElem_of_mem ho
      exact (q2 i _ _ (List.getElem?_eq_getElem hi) (List.getElem?_eq_getElem (by rw [← q1]; exact hi))).2
    · obtain ⟨i, hi, rfl⟩ := List.getElem_of_mem hb'
      exact (u2 i _ _ (List.getElem?_eq_getElem hi) (List.getElem?_eq_getElem (by rw [← u1]; exact hi))).2
end
end Go.Proofs.Ytadgiccfjppnfaa.into
