/-
  Two spots together.
-/
import Derived.Test.YtjjfpokmpcpicaaPMg0
namespace Go.Proofs.Ytjjfpokmpcpicaa
open Go.RowKit
set_option linter.unusedVariables false
set_option linter.unusedSimpArgs false
/-- The bits that one or the other has. -/
def orU (a b : Int) : Int := bits .or .u16 a b
def tog (x y : Sp) : Sp := ⟨cnt x.c y.c, orU x.a y.a, orU x.b y.b, cal x.k y.k⟩
set_option maxRecDepth 100000 in
set_option maxHeartbeats 3200000 in
theorem together_any (w : World) (x y : Sp) (hx : I64 x.c) (hy : I64 y.c) : Calls Try.prog 35 #[spV x, spV y] w fun e w' => e = .returned (spV (tog x y)) ∧ Below w.heap.size w w' := by
  obtain ⟨x0, x1, x2, x3⟩ := x
  obtain ⟨y0, y1, y2, y3⟩ := y
  unfold spV tog orU
  simp only at hx hy ⊢
  have HB := hide (Below.alloc3 w)
  have HC1 := hide (fun W => sum_any W x0 y0 hx hy)
  have HC2 := hide (fun W => oneCallee_any W x3 y3)
  obtain ⟨c, hc⟩ : ∃ c, Hid (cnt x0 y0 = c) := ⟨_, hide rfl⟩
  obtain ⟨k, hk⟩ : ∃ k, Hid (cal x3 y3 = k) := ⟨_, hide rfl⟩
  rw [unhide hc] at HC1 ⊢
  rw [unhide hk] at HC2 ⊢
  clear hx hy hc hk
  go_enter Try.func35, Try.ntmps35
  go_wp2_with fail
  go_region_held3 (fun w' => w'.cell? ⟨w.heap.size, 0, none⟩ = some (.int .i64 x0) ∧ w'.cell? ⟨w.heap.size, 1, none⟩ = some (.int .u16 x1) ∧ w'.cell? ⟨w.heap.size, 2, none⟩ = some (.int .u16 x2) ∧ w'.cell? ⟨w.heap.size, 3, none⟩ = some (.int .i64 x3) ∧ w'.cell? ⟨w.heap.size + 1, 0, none⟩ = some (.int .i64 y0) ∧ w'.cell? ⟨w.heap.size + 1, 1, none⟩ = some (.int .u16 y1) ∧ w'.cell? ⟨w.heap.size + 1, 2, none⟩ = some (.int .u16 y2) ∧ w'.cell? ⟨w.heap.size + 1, 3, none⟩ = some (.int .i64 y3)) (go_keep) (first | (go_at_call 39; refine (unhide HC1 _).mono ?_; rintro e w1 ⟨rfl, rfl⟩) | (go_at_call 41; refine (unhide HC2 _).mono ?_; rintro e w1 ⟨rfl, rfl⟩))
  go_wp2_with fail
  refine bodyPost_ret (v := .agg #[.int .i64 c, .int .u16 (bits .or .u16 x1 y1), .int .u16 (bits .or .u16 x2 y2), .int .i64 k]) ?_ rfl ?_
  · rw [results_cell_one rfl]
    go_simp
  · refine ⟨rfl, ?_⟩
    exact bl_past (unhide HB _ _ _) (bl_drew _)
set_option maxRecDepth 100000 in
set_option maxHeartbeats 3200000 in
theorem spots_any (w : World) (x y : Sp) (hx : I64 x.c) (hy : I64 y.c) : Calls Try.prog 24 #[spV x, spV y] w fun e w' => e = .returned (spV (tog x y)) ∧ Below w.heap.size w w' := by
  obtain ⟨x0, x1, x2, x3⟩ := x
  obtain ⟨y0, y1, y2, y3⟩ := y
  unfold spV tog orU
  simp only at hx hy ⊢
  have HB := hide (Below.alloc3 w)
  have HC1 := hide (fun W => counts_any W x0 y0 hx hy)
  have HC2 := hide (fun W => callees_any W x3 y3)
  obtain ⟨c, hc⟩ : ∃ c, Hid (cnt x0 y0 = c) := ⟨_, hide rfl⟩
  obtain ⟨k, hk⟩ : ∃ k, Hid (cal x3 y3 = k) := ⟨_, hide rfl⟩
  rw [unhide hc] at HC1 ⊢
  rw [unhide hk] at HC2 ⊢
  clear hx hy hc hk
  go_enter Try.func24, Try.ntmps24
  go_wp2_with fail
  go_region_held3 (fun w' => w'.cell? ⟨w.heap.size, 0, none⟩ = some (.int .i64 x0) ∧ w'.cell? ⟨w.heap.size, 1, none⟩ = some (.int .u16 x1) ∧ w'.cell? ⟨w.heap.size, 2, none⟩ = some (.int .u16 x2) ∧ w'.cell? ⟨w.heap.size, 3, none⟩ = some (.int .i64 x3) ∧ w'.cell? ⟨w.heap.size + 1, 0, none⟩ = some (.int .i64 y0) ∧ w'.cell? ⟨w.heap.size + 1, 1, none⟩ = some (.int .u16 y1) ∧ w'.cell? ⟨w.heap.size + 1, 2, none⟩ = some (.int .u16 y2) ∧ w'.cell? ⟨w.heap.size + 1, 3, none⟩ = some (.int .i64 y3)) (go_keep) (first | (go_at_call 42; refine (unhide HC1 _).mono ?_; rintro e w1 ⟨rfl, rfl⟩) | (go_at_call 43; refine (unhide HC2 _).mono ?_; rintro e w1 ⟨rfl, rfl⟩))
  go_wp2_with fail
  refine bodyPost_ret (v := .agg #[.int .i64 c, .int .u16 (bits .or .u16 x1 y1), .int .u16 (bits .or .u16 x2 y2), .int .i64 k]) ?_ rfl ?_
  · rw [results_cell_one rfl]
    go_simp
  · refine ⟨rfl, ?_⟩
    exact bl_past (unhide HB _ _ _) (bl_drew _)
end Go.Proofs.Ytjjfpokmpcpicaa
