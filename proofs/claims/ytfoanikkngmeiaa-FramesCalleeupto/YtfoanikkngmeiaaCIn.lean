/-
  A call that came in.
-/
import Derived.Test.YtfoanikkngmeiaaPIn
import Derived.Test.YtfoanikkngmeiaaCLaw
namespace Go.Proofs.Ytfoanikkngmeiaa.into
open Go.ChangeShapes Go.WideShapes Go.ChangeAt Go.RowKit Go.Joins
set_option linter.unusedVariables false
theorem cellsV : Try.prog.cellsOf 28 = 2 := by kernel_rfl
theorem cellsVs : Try.prog.cellsOf 40 = 1 := by kernel_rfl
section
variable {H : Type} {enc : TypeId × Value → H} {W : World}
set_option maxRecDepth 100000 in
theorem val_cells (n : Nat) (cs : List Value) (y : DataW H × List MemPlace) (hl : cs.length = 2) (h : DataW.trod enc Try.prog W 0 (fun _ => true) true n 28 cs = some y) : ∃ x : Int × Int, cs = enI x ∧ okI x := by
  obtain ⟨xs, q, _, rfl, _, hxl, hfs⟩ := DataW.trod_struct Try.underlying28 h
  match xs, hxl, cs, hl with
  | [y0, y1], _, [c0, c1], _ =>
    have g0 := hfs 0 _ rfl
    have g1 := hfs 1 _ rfl
    simp [cells3, cells2] at g0 g1
    obtain ⟨k, e0, rfl, wk⟩ := DataW.trod_int Try.underlying3 g0
    obtain ⟨m, e1, rfl, wm⟩ := DataW.trod_int Try.underlying2 g1
    simp at e0 e1
    subst e0 e1
    exact ⟨(k, m), rfl, i64_of wk, i64_of wm⟩
theorem less_of {ds rs : List (DataW H)} {y : DataW H} {n : Nat} (h : y = .slice ds rs ∨ (ds = [] ∧ y = .nil)) (hn : n = ds.length) : n < Rows.uptoBulk y := by
  rcases h with rfl | ⟨rfl, rfl⟩
  · rw [Rows.uptoBulk]
    have := bulk_len ds
    omega
  · simp at hn; subst hn; exact bulk_one _
end

set_option linter.unusedVariables false
theorem cells4 : Try.prog.cellsOf 4 = 1 := by kernel_rfl
theorem cells41 : Try.prog.cellsOf 49 = 1 := by kernel_rfl
theorem cells23 : Try.prog.cellsOf 26 = 1 := by kernel_rfl
theorem cellsO : Try.prog.cellsOf 51 = 6 := by kernel_rfl
/-- A list of what is known of each. -/
theorem pick_row {T U : Type} : ∀ (l : List T) (Q : Nat → T → U → Prop), (∀ (i : Nat) (x : T), l[i]? = some x → ∃ u, Q i x u) → ∃ us : List U, us.length = l.length ∧ ∀ (i : Nat) (u : U) (x : T), us[i]? = some u → l[i]? = some x → Q i x u
  | [], _, _ => ⟨[], rfl, fun i u x h => by simp at h⟩
  | y :: r, Q, h => by
    obtain ⟨v, hv⟩ := h 0 y rfl
    obtain ⟨us, h1, h2⟩ := pick_row r (fun i => Q (i + 1)) (fun i x hx => h (i + 1) x (by simpa using hx))
    refine ⟨v :: us, by simp [h1], fun i u x hu hx => ?_⟩
    cases i with
    | zero => simp at hu hx; subst hu hx; exact hv
    | succ i => exact h2 i u x (by simpa using hu) (by simpa using hx)
section
variable {H : Type} {enc : TypeId × Value → H} {W : World}
theorem long_cells (n : Nat) (cs : List Value) (y : DataW H × List MemPlace) (hl : cs.length = 1) (h : DataW.trod enc Try.prog W 0 (fun _ => true) true n 2 cs = some y) : ∃ x : Int, cs = enL x ∧ True := by
  obtain ⟨k, e0, rfl, wk⟩ := DataW.trod_int Try.underlying2 h
  exact ⟨k, e0, trivial⟩
/-- An object, out of its six cells. -/
def GO (H : Type) (W : World) (x : Obv) (d : DataW H) : Prop := ∃ o : Ob, ObV W o x ∧ o.its.length < Rows.uptoBulk d ∧ o.keys.length < Rows.uptoBulk d
set_option maxRecDepth 100000 in
theorem ob_cells (n : Nat) (cs : List Value) (y : DataW H × List MemPlace) (hl : cs.length = 6) (h : DataW.trod enc Try.prog W 0 (fun _ => true) true n 51 cs = some y) : ∃ x : Obv, cs = enO x ∧ GO H W x y.1 := by
  obtain ⟨xs, q, _, hd, _, hxl, hfs⟩ := DataW.trod_struct Try.underlying51 h
  have hd1 : y.1 = _ := congrArg Prod.fst hd
  match xs, hxl, cs, hl with
  | [y0, y1, y2, y3, y4, y5], _, [c0, c1, c2, c3, c4, c5], _ =>
    have g0 := hfs 0 _ rfl
    have g1 := hfs 1 _ rfl
    have g2 := hfs 2 _ rfl
    have g3 := hfs 3 _ rfl
    have g4 := hfs 4 _ rfl
    have g5 := hfs 5 _ rfl
    simp [cells3, cellsVs, cells41, cells4] at g0 g1 g2 g3 g4 g5
    obtain ⟨k0, e0, _, _⟩ := DataW.trod_int Try.underlying3 g0
    obtain ⟨k3, e3, _, _⟩ := DataW.trod_int Try.underlying3 g3
    obtain ⟨k4, e4, _, _⟩ := DataW.trod_int Try.underlying3 g4
    obtain ⟨k5, e5, _⟩ := DataW.trod_bool Try.underlying4 g5
    simp at e0 e3 e4 e5
    subst e0 e3 e4 e5
    obtain ⟨l1, d1, r1, x1, n1, s1, o1⟩ := rows_cell zI (by omega) ((0 : Int), (0 : Int)) Try.underlying40 cellsV (fun p _ => okI p) val_cells g1
    obtain ⟨l2, d2, r2, x2, n2, s2, o2⟩ := rows_cell zL (by omega) (0 : Int) Try.underlying49 cells2 (fun p _ => True) long_cells g2
    have bs : ∀ z ∈ [y0, y1, y2, y3, y4, y5], Rows.uptoBulk z.1 ≤ Rows.uptoBulk y.1 := fun z hz => by
      rw [hd1, Rows.uptoBulk]
      have := bulk_part (List.mem_map.2 ⟨z, hz, rfl⟩ : z.1 ∈ [y0, y1, y2, y3, y4, y5].map (·.1))
      omega
    exact ⟨⟨k0, c1, c2, k3, k4, k5⟩, rfl, ⟨k0, l1, l2, k3, k4, k5⟩, ⟨rfl, rfl, rfl, rfl, x1, x2⟩, Nat.lt_of_lt_of_le (less_of s1 n1) (bs y1 (by simp)), Nat.lt_of_lt_of_le (less_of s2 n2) (bs y2 (by simp))⟩
theorem cellsCa : Try.prog.cellsOf 30 = 4 := by kernel_rfl
/-- A call that came in. -/
def CalV (W : World) (v : Value) : Prop := ∃ (lv : Value) (os : List Ob) (x y n : Int), v = .agg #[lv, .int .i64 x, .int .i64 y, .int .i64 n] ∧ OsV W lv os ∧ os.length ≤ 1048576 ∧ ∀ o ∈ os, o.its.length ≤ 1048576 ∧ o.keys.length ≤ 1048576
set_option maxRecDepth 100000 in
theorem inCal {base : Nat} {v : Value} {d : DataW H} {p : List MemPlace} (hv : Value.okWide Try.prog W .any base 30 v) (h : DataW.Trod enc Try.prog W 0 (fun _ => true) true 30 v d p) (hb : Rows.uptoBulk d ≤ 1048576) : ∃ u : Unit, CalV W v := by
  obtain ⟨fuel, hf⟩ := h
  obtain ⟨cs, rfl, hcs⟩ := okWide_struct Try.underlying30 hv
  rw [cellsCa] at hcs
  obtain ⟨cl⟩ := cs
  simp only [Value.cells] at hf
  obtain ⟨xs, m, _, hd, _, hxl, hfs⟩ := DataW.trod_struct Try.underlying30 hf
  have hd1 := ((Prod.mk.injEq _ _ _ _).mp hd).1
  match xs, hxl, cl, hcs with
  | [y0, y1, y2], _, [c0, c1, c2, c3], _ =>
    have g0 := hfs 0 _ rfl
    have g1 := hfs 1 _ rfl
    have g2 := hfs 2 _ rfl
    simp [cells3, cells23, cellsV] at g0 g1 g2
    obtain ⟨xv, e1, _⟩ := val_cells _ _ _ rfl g1
    obtain ⟨k2, e2, _, _⟩ := DataW.trod_int Try.underlying3 g2
    simp [enI] at e1 e2
    obtain ⟨rfl, rfl⟩ := e1
    subst e2
    have bs : ∀ z ∈ [y0, y1, y2], Rows.uptoBulk z.1 ≤ 1048576 := fun z hz => by
      rw [hd1, Rows.uptoBulk] at hb
      have := bulk_part (List.mem_map.2 ⟨z, hz, rfl⟩ : z.1 ∈ [y0, y1, y2].map (·.1))
      omega
    obtain ⟨l1, d1, r1, x1, n1, s1, o1⟩ := rows_cell zO (by omega) (⟨0, .slice none 0 0, .slice none 0 0, 0, 0, false⟩ : Obv) Try.underlying26 cellsO (GO H W) ob_cells g0
    have part : ∀ {ds rs : List (DataW H)} {dd : DataW H} {yy : DataW H} {i : Nat}, (yy = .slice ds rs ∨ (ds = [] ∧ yy = .nil)) → ds[i]? = some dd → Rows.uptoBulk yy ≤ 1048576 → Rows.uptoBulk dd ≤ 1048576 := fun {ds rs dd yy i} hs hdd hy => by
      rcases hs with e | ⟨e, _⟩
      · rw [e, Rows.uptoBulk] at hy
        have := bulk_part (List.mem_of_getElem? hdd)
        omega
      · rw [e] at hdd; simp at hdd
    obtain ⟨os, q1, q2⟩ := pick_row (U := Ob) l1 (fun i x o => ObV W o x ∧ o.its.length ≤ 1048576 ∧ o.keys.length ≤ 1048576) (fun i x hx => by
      obtain ⟨dd, hdd, o, ho, b1, b2⟩ := o1 i x hx
      have := part s1 hdd (bs y0 (by simp))
      exact ⟨o, ho, by omega, by omega⟩)
    refine ⟨(), c0, os, _, _, k2, rfl, ⟨l1, q1.symm, x1, fun i o x ho hx => (q2 i o x ho hx).1⟩, ?_, fun o ho => ?_⟩
    · rw [q1]; exact Nat.le_of_lt (Nat.lt_of_lt_of_le (less_of s1 n1) (bs y0 (by simp)))
    · obtain ⟨i, hi, rfl⟩ := List.getElem_of_mem ho
      exact (q2 i _ _ (List.getElem?_eq_getElem hi) (List.getElem?_eq_getElem (by rw [← q1]; exact hi))).2
end
end Go.Proofs.Ytfoanikkngmeiaa.into
namespace Go.Proofs.Ytfoanikkngmeiaa
open Go.RowKit
theorem calleeIn {w : World} {pv cv : Value} {p : Pg} (h : PgV w pv p ∧ p.funcs.length ≤ 1048576 ∧ p.consts.length ≤ 1048576 ∧ (∀ (i : Nat) (f : Fc), p.funcs[i]? = some f → into.okF f) ∧ ∀ c ∈ p.consts, into.okC c) (hc : into.CalV w cv) :
    Calls Try.prog 3 #[pv, cv] w fun e w' => e = .returned (.bool true) ∧ Below w.heap.size w w' := by
  obtain ⟨lv, os, x, y, n, rfl, ho, hN, hS⟩ := hc
  refine calleeLaw h.1 h.2.1 h.2.2.1 (fun i f hf => ⟨(h.2.2.2.1 i f hf).1, (h.2.2.2.1 i f hf).2.1⟩) (fun f hf => ?_) ho hN hS
  obtain ⟨i, hi, rfl⟩ := List.getElem_of_mem hf
  exact (h.2.2.2.1 i _ (List.getElem?_eq_getElem hi)).2.2.2.1.2
end Go.Proofs.Ytfoanikkngmeiaa
