/-
  The instruction at which a frame stands.
-/
import Derived.Test.YtadgiccfjppnfaaRn
namespace Go.Proofs.Ytadgiccfjppnfaa
open Go.RowKit
set_option linter.unusedVariables false
set_option linter.unusedSimpArgs false
/-- The instruction of a place, if there is one. -/
def insF (p : Pg) (fn pc : Int) : Option (Int × Int) :=
  if 0 ≤ fn ∧ fn < p.funcs.length then (p.funcs[fn.toNat]?).bind (fun f => if 0 ≤ pc ∧ pc < f.code.length then f.code[pc.toNat]? else none) else none
theorem PgV.shape {w : World} {v : Value} {p : Pg} (h : PgV w v p) : ∃ ca cc fa fc, v = .agg #[.slice ca p.consts.length cc, .slice fa p.funcs.length fc] ∧ Rfs w (.slice fa p.funcs.length fc) p.funcs ∧ p.funcs.length ≤ fc ∧ fc ≤ maxLen := by
  obtain ⟨cv, fv, e, h1, h2⟩ := h
  obtain ⟨ca, cc, rfl, _⟩ := h1.shape
  obtain ⟨fa, fc, rfl, f1, f2, _⟩ := h2.at
  exact ⟨ca, cc, fa, fc, e, h2, f1, f2⟩
/-- A function's code, where it lies. -/
theorem Rfs.code {w : World} {a : Option Addr} {n cap : Nat} {fs : List Fc} (h : Rfs w (.slice a n cap) fs) {i : Nat} {f : Fc} (hf : fs[i]? = some f) :
    ∃ b off da dc, a = some ⟨b, off, none⟩ ∧ b < w.heap.size ∧ w.cell? ⟨b, off + i * 5 + 3, none⟩ = some (.slice da f.code.length dc) ∧ Rx w 2 (.slice da f.code.length dc) f.code.length (flt enI f.code) ∧ f.code.length ≤ dc ∧ dc ≤ maxLen := by
  obtain ⟨a', cap', e, _, _, hat⟩ := h.at
  cases e
  obtain ⟨b, off, x, rfl, hb, hx, hc⟩ := hat i f hf
  have hx4 := hx.2.2.2.1
  obtain ⟨da, dc, e4, d1, d2⟩ := hx4.shape
  rw [e4] at hx4
  have := hc 3 _ rfl
  rw [e4] at this
  exact ⟨b, off, da, dc, rfl, hb, this, hx4, d1, d2⟩
def NxN (w : World) (e : Ending) (w' : World) : Prop := e = .returned (.tuple #[.agg #[.int .i64 0, .int .i64 0], .bool false]) ∧ Below w.heap.size w w'
def NxY (w : World) (x : Int × Int) (e : Ending) (w' : World) : Prop := e = .returned (.tuple #[.agg #[.int .i64 x.1, .int .i64 x.2], .bool true]) ∧ Below w.heap.size w w'
theorem three_cells {w w1 : World} {a b c : Array Value} {ta tb tc : TypeId} (h : Below (w.heap.size + 3) (((w.alloc (.cells a ta)).alloc (.cells b tb)).alloc (.cells c tc)) w1) :
    (∀ j, w1.cell? ⟨w.heap.size, j, none⟩ = a[j]?) ∧ (∀ j, w1.cell? ⟨w.heap.size + 1, j, none⟩ = b[j]?) ∧ (∀ j, w1.cell? ⟨w.heap.size + 1 + 1, j, none⟩ = c[j]?) ∧ ∀ j, w1.frozen? ⟨w.heap.size + 1 + 1, j, none⟩ = false := by
  obtain ⟨b1, b2, b3⟩ := blk3 w (.cells a ta) (.cells b tb) (.cells c tc)
  have p1 := (h.block w.heap.size (by omega)).trans b1
  have p2 := (h.block (w.heap.size + 1) (by omega)).trans b2
  have p3 := (h.block (w.heap.size + 1 + 1) (by omega)).trans b3
  exact ⟨(blk_cells p1).1, (blk_cells p2).1, (blk_cells p3).1, (blk_cells p3).2.1⟩
set_option maxRecDepth 100000 in
set_option maxHeartbeats 800000 in
theorem next_out {w : World} {pv : Value} {p : Pg} (h : PgV w pv p) (fn pc : Int) (sa : Option Addr) (SL sc : Nat) (hk : ¬ (0 ≤ fn ∧ fn < p.funcs.length)) : Calls Try.prog 52 #[pv, .agg #[.int .i64 fn, .int .i64 pc, .slice sa SL sc]] w (NxN w) := by
  obtain ⟨ca, cc, fa, fc, rfl, -, f1, f2⟩ := h.shape
  unfold maxLen at f2
  obtain ⟨NC, hNC⟩ : ∃ n, Hid (p.consts.length = n) := ⟨_, hide rfl⟩
  obtain ⟨NF, hNF⟩ : ∃ n, Hid (p.funcs.length = n) := ⟨_, hide rfl⟩
  rw [unhide hNC, unhide hNF]
  rw [unhide hNF] at hk f1
  clear h
  have HW := hide (fun w => within_any w fn NF)
  rw [decide_eq_false hk] at HW
  have hsz : Hid (∀ O1 O2 O3, Below w.heap.size w (((w.alloc O1).alloc O2).alloc O3)) := bl_three w
  go_enter Try.func52, Try.ntmps52
  go_wp2_with fail
  go_quiet (first | (go_at_call 48; exact Calls.quiet_of_same (unhide HW _)))
  go_wp2_with fail
  refine bodyPost_ret (v := .tuple #[.agg #[.int .i64 0, .int .i64 0], .bool false]) ?_ rfl ?_
  · rw [results_cell_tmp rfl]
    go_simp
  · refine ⟨rfl, ?_⟩
    repeat (first | exact bl_past (unhide hsz _ _ _) (bl_drewN _ _) | refine Below.setCell ?_ (by first | (simp; done) | (simp; omega)) _)
set_option maxRecDepth 100000 in
set_option maxHeartbeats 800000 in
theorem next_past {w : World} {pv : Value} {p : Pg} (h : PgV w pv p) (i : Nat) (pc : Int) (sa : Option Addr) (SL sc : Nat) {f : Fc} (hf : p.funcs[i]? = some f) (hk : ¬ (0 ≤ pc ∧ pc < f.code.length)) : Calls Try.prog 52 #[pv, .agg #[.int .i64 (i : Int), .int .i64 pc, .slice sa SL sc]] w (NxN w) := by
  obtain ⟨ca, cc, fa, fc, rfl, hr, f1, f2⟩ := h.shape
  unfold maxLen at f2
  have hil := (List.getElem?_eq_some_iff.1 hf).1
  obtain ⟨b, off, da, dc, ea, hb, k3, -, hdl, hdm⟩ := hr.code hf
  cases ea
  unfold maxLen at hdm
  obtain ⟨NC, hNC⟩ : ∃ n, Hid (p.consts.length = n) := ⟨_, hide rfl⟩
  obtain ⟨NF, hNF⟩ : ∃ n, Hid (p.funcs.length = n) := ⟨_, hide rfl⟩
  obtain ⟨CL, hCL⟩ : ∃ n, Hid (f.code.length = n) := ⟨_, hide rfl⟩
  rw [unhide hNC, unhide hNF]
  rw [unhide hNF] at hil f1
  rw [unhide hCL] at hk k3 hdl
  clear h hr hf
  have HW := hide (fun w => within_any w i NF)
  rw [decide_eq_true (by omega)] at HW
  have HV : decide (0 ≤ pc ∧ pc < (CL : Int)) = false := decide_eq_false hk
  have i0 : (0 : Int) ≤ (i : Int) := by omega
  have i1 : (i : Int) < (NF : Int) := by omega
  have hsz : Hid (∀ O1 O2 O3, Below w.heap.size w (((w.alloc O1).alloc O2).alloc O3)) := bl_three w
  have hb1 : b < w.heap.size + 1 := by omega
  have hb2' : b < w.heap.size + 1 + 1 := by omega
  have hbn : b ≠ w.heap.size ∧ b ≠ w.heap.size + 1 ∧ b ≠ w.heap.size + 1 + 1 := by omega
  clear hk
  go_enter Try.func52, Try.ntmps52
  go_wp2_with fail
  go_quiet (first | (go_at_call 48; exact Calls.quiet_of_same (within_any _ _ _)))
  go_wp2_with fail
  refine bodyPost_ret (v := .tuple #[.agg #[.int .i64 0, .int .i64 0], .bool false]) ?_ rfl ?_
  · rw [results_cell_tmp rfl]
    go_simp
  · refine ⟨rfl, ?_⟩
    repeat (first | exact bl_past (unhide hsz _ _ _) (bl_drewN _ _) | refine Below.setCell ?_ (by first | (simp; done) | (simp; omega)) _)
set_option maxRecDepth 100000 in
set_option maxHeartbeats 800000 in
theorem next_yes {w : World} {pv : Value} {p : Pg} (h : PgV w pv p) (i j : Nat) (sa : Option Addr) (SL sc : Nat) {f : Fc} {x : Int × Int} (hf : p.funcs[i]? = some f) (hx : f.code[j]? = some x) : Calls Try.prog 52 #[pv, .agg #[.int .i64 (i : Int), .int .i64 (j : Int), .slice sa SL sc]] w (NxY w x) := by
  obtain ⟨ca, cc, fa, fc, rfl, hr, f1, f2⟩ := h.shape
  unfold maxLen at f2
  have hil := (List.getElem?_eq_some_iff.1 hf).1
  have hjl := (List.getElem?_eq_some_iff.1 hx).1
  obtain ⟨b, off, da, dc, ea, hb, k3, hrx, hdl, hdm⟩ := hr.code hf
  cases ea
  obtain ⟨cb, co, _, ec, _, _, hcb, hcs⟩ := hrx.elem zI hx
  cases ec
  obtain ⟨x1, x2⟩ := x
  have c0 : w.cell? ⟨cb, co + j * 2, none⟩ = some (.int .i64 x1) := hcs 0 _ rfl
  have c1 : w.cell? ⟨cb, co + j * 2 + 1, none⟩ = some (.int .i64 x2) := hcs 1 _ rfl
  unfold maxLen at hdm
  obtain ⟨NC, hNC⟩ : ∃ n, Hid (p.consts.length = n) := ⟨_, hide rfl⟩
  obtain ⟨NF, hNF⟩ : ∃ n, Hid (p.funcs.length = n) := ⟨_, hide rfl⟩
  obtain ⟨CL, hCL⟩ : ∃ n, Hid (f.code.length = n) := ⟨_, hide rfl⟩
  rw [unhide hNC, unhide hNF]
  rw [unhide hNF] at hil f1
  rw [unhide hCL] at hjl k3 hdl
  clear h hr hf hx hrx hcs
  have HW := hide (fun w => within_any w i NF)
  rw [decide_eq_true (by omega)] at HW
  have i0 : (0 : Int) ≤ (i : Int) := by omega
  have i1 : (i : Int) < (NF : Int) := by omega
  have j0 : (0 : Int) ≤ (j : Int) := by omega
  have j1 : (j : Int) < (CL : Int) := by omega
  have hsz : Hid (∀ O1 O2 O3, Below w.heap.size w (((w.alloc O1).alloc O2).alloc O3)) := bl_three w
  have hb1 : b < w.heap.size + 1 := by omega
  have hb2' : b < w.heap.size + 1 + 1 := by omega
  have hbn : b ≠ w.heap.size ∧ b ≠ w.heap.size + 1 ∧ b ≠ w.heap.size + 1 + 1 := by omega
  go_enter Try.func52, Try.ntmps52
  go_wp2_with fail
  go_quiet (first | (go_at_call 48; exact Calls.quiet_of_same (within_any _ _ _)))
  have h3 : Below (w.heap.size + 3) _ _ := (bl_drewN (((w.alloc (.cells #[.slice ca NC cc, .slice (some ⟨b, off, none⟩) NF fc] 48)).alloc (.cells #[.int .i64 (i : Int), .int .i64 (j : Int), .slice sa SL sc] 38)).alloc (.cells #[.int .i64 0, .int .i64 0] 95)) nq).mono (by simp only [World.size_alloc]; omega)
  have hbw := bl_past (unhide hsz (.cells #[.slice ca NC cc, .slice (some ⟨b, off, none⟩) NF fc] 48) (.cells #[.int .i64 (i : Int), .int .i64 (j : Int), .slice sa SL sc] 38) (.cells #[.int .i64 0, .int .i64 0] 95)) (bl_drewN _ nq)
  obtain ⟨X, hX⟩ : ∃ X, Hid ((((w.alloc (.cells #[.slice ca NC cc, .slice (some ⟨b, off, none⟩) NF fc] 48)).alloc (.cells #[.int .i64 (i : Int), .int .i64 (j : Int), .slice sa SL sc] 38)).alloc (.cells #[.int .i64 0, .int .i64 0] 95)).drewN nq = X) := ⟨_, hide rfl⟩
  rw [unhide hX] at h3 hbw ⊢
  obtain ⟨q1, q2, q3, q4⟩ := three_cells h3
  have m1 := q1 1
  have m2 := q2 0
  have m3 := q2 1
  have z0 := q3 0
  have z1 := q3 1
  have y0 := q4 0
  have y1 := q4 1
  simp at m1 m2 m3 z0 z1
  have u3 := (hbw.cell (p := ⟨b, off + i * 5 + 3, none⟩) hb).trans k3
  have u0 := (hbw.cell (p := ⟨cb, co + j * 2, none⟩) hcb).trans c0
  have u1 := (hbw.cell (p := ⟨cb, co + j * 2 + 1, none⟩) hcb).trans c1
  have HB := hide hbw
  have hXs : w.heap.size + 3 ≤ X.heap.size := by have := h3.size; simpa using this
  have hb2 := Nat.lt_of_lt_of_le hb hbw.size
  have hcb2 := Nat.lt_of_lt_of_le hcb hbw.size
  have hFF : Fr (fun k => k = w.heap.size + 1 + 1) X ((X.setCell ⟨w.heap.size + 1 + 1, 0, none⟩ (.int .i64 x1)).setCell ⟨w.heap.size + 1 + 1, 1, none⟩ (.int .i64 x2)).drew := (((Fr.refl (fun k => k = w.heap.size + 1 + 1) X).setCell ⟨w.heap.size + 1 + 1, 0, none⟩ (.inr rfl) (.int .i64 x1)).setCell ⟨w.heap.size + 1 + 1, 1, none⟩ (.inr rfl) (.int .i64 x2)).drew
  have HSB : Hid (((X.setCell ⟨w.heap.size + 1 + 1, 0, none⟩ (.int .i64 x1)).setCell ⟨w.heap.size + 1 + 1, 1, none⟩ (.int .i64 x2)).drew.cell? ⟨w.heap.size, 1, none⟩ = some (.slice (some ⟨b, off, none⟩) NF fc) ∧ ((X.setCell ⟨w.heap.size + 1 + 1, 0, none⟩ (.int .i64 x1)).setCell ⟨w.heap.size + 1 + 1, 1, none⟩ (.int .i64 x2)).drew.cell? ⟨w.heap.size + 1, 0, none⟩ = some (.int .i64 (i : Int)) ∧ ((X.setCell ⟨w.heap.size + 1 + 1, 0, none⟩ (.int .i64 x1)).setCell ⟨w.heap.size + 1 + 1, 1, none⟩ (.int .i64 x2)).drew.cell? ⟨w.heap.size + 1, 1, none⟩ = some (.int .i64 (j : Int)) ∧ ((X.setCell ⟨w.heap.size + 1 + 1, 0, none⟩ (.int .i64 x1)).setCell ⟨w.heap.size + 1 + 1, 1, none⟩ (.int .i64 x2)).drew.cell? ⟨b, off + i * 5 + 3, none⟩ = some (.slice (some ⟨cb, co, none⟩) CL dc) ∧ ((X.setCell ⟨w.heap.size + 1 + 1, 0, none⟩ (.int .i64 x1)).setCell ⟨w.heap.size + 1 + 1, 1, none⟩ (.int .i64 x2)).drew.cell? ⟨cb, co + j * 2, none⟩ = some (.int .i64 x1) ∧ ((X.setCell ⟨w.heap.size + 1 + 1, 0, none⟩ (.int .i64 x1)).setCell ⟨w.heap.size + 1 + 1, 1, none⟩ (.int .i64 x2)).drew.cell? ⟨cb, co + j * 2 + 1, none⟩ = some (.int .i64 x2)) :=
    ⟨(hFF.cell (a := ⟨w.heap.size, 1, none⟩) (show w.heap.size < X.heap.size by omega) (show ¬ w.heap.size = w.heap.size + 1 + 1 by omega)).trans m1, (hFF.cell (a := ⟨w.heap.size + 1, 0, none⟩) (show w.heap.size + 1 < X.heap.size by omega) (show ¬ w.heap.size + 1 = w.heap.size + 1 + 1 by omega)).trans m2, (hFF.cell (a := ⟨w.heap.size + 1, 1, none⟩) (show w.heap.size + 1 < X.heap.size by omega) (show ¬ w.heap.size + 1 = w.heap.size + 1 + 1 by omega)).trans m3,
      (hFF.cell (a := ⟨b, off + i * 5 + 3, none⟩) hb2 (show ¬ b = w.heap.size + 1 + 1 by omega)).trans u3, (hFF.cell (a := ⟨cb, co + j * 2, none⟩) hcb2 (show ¬ cb = w.heap.size + 1 + 1 by omega)).trans u0, (hFF.cell (a := ⟨cb, co + j * 2 + 1, none⟩) hcb2 (show ¬ cb = w.heap.size + 1 + 1 by omega)).trans u1⟩
  clear hFF
  clear h3 hbw q1 q2 q3 q4 k3 c0 c1 HW hX
  go_wp2_with fail
  go_region_held3 (fun w' => w'.cell? ⟨w.heap.size, 1, none⟩ = some (.slice (some ⟨b, off, none⟩) NF fc) ∧ w'.cell? ⟨w.heap.size + 1, 0, none⟩ = some (.int .i64 (i : Int)) ∧ w'.cell? ⟨w.heap.size + 1, 1, none⟩ = some (.int .i64 (j : Int)) ∧ w'.cell? ⟨b, off + i * 5 + 3, none⟩ = some (.slice (some ⟨cb, co, none⟩) CL dc) ∧ w'.cell? ⟨cb, co + j * 2, none⟩ = some (.int .i64 x1) ∧ w'.cell? ⟨cb, co + j * 2 + 1, none⟩ = some (.int .i64 x2)) (first | exact unhide HSB | go_keep) (fail)
  go_wp2_with fail
  refine bodyPost_ret (v := .tuple #[.agg #[.int .i64 x1, .int .i64 x2], .bool true]) ?_ rfl ?_
  · rw [results_cell_tmp rfl]
    go_simp
  · refine ⟨rfl, ?_⟩
    repeat (first | exact unhide HB | exact bl_past (unhide HB) (bl_drew _) | refine Below.setCell ?_ (by first | (simp; done) | (simp; omega)) _ | refine Below.trans ?_ ((bl_drew _).mono (by first | (simp; done) | (simp; omega))))
end Go.Proofs.Ytadgiccfjppnfaa
