/-
  Towers.
-/
import Derived.Test.YtiknljilfpekfaaDoorK1
import Derived.Test.YtiknljilfpekfaaDoorVKn
namespace Go.Proofs.YtiknljilfpekfaaDoor
open Go.RowKit
set_option linter.unusedVariables false
set_option linter.unusedSimpArgs false
def tb (n : Nat) : List (Int × Int) := (List.range (2 * n - 1)).map (fun i => if i < n then ((1, 0) : Int × Int) else (7, 0))
set_option maxRecDepth 100000 in
set_option maxHeartbeats 6400000 in
theorem tower64_any {w : World} : Calls Tryd.prog 13 #[.int .i64 64] w fun e w' => ∃ v, e = .returned v ∧ FnG w mainB (twr 64) v w' := by
  have HF0 := hide (FB.first w mainB (t := 25))
  rw [show mainB = ⟨#[109, 97, 105, 110]⟩ from rfl] at HF0
  go_enter Tryd.func13, Tryd.ntmps13
  go_wp2_with fail
  go_loopg [4] 127 (fun g t4 wr => ∃ (i : Nat) (v : Value), Hid (i + g = 127) ∧ t4 = .int .i64 (i : Int) ∧ Hid (FB w ⟨#[109, 97, 105, 110]⟩ v ((tb 64).take i) wr))
  case atStart => exact ⟨0, _, by unfold Hid; omega, rfl, HF0⟩
  case round =>
    obtain ⟨i, v, hi, rfl, hG⟩ := hrel
    have htl : ((tb 64).take i).length = i := by rw [List.length_take]; unfold tb; rw [List.length_map, List.length_range]; have := unhide hi; omega
    have hsh := (unhide hG).hr.shape
    rw [htl] at hsh
    obtain ⟨va, vc, ev, _, _⟩ := hsh
    subst ev
    have c3 := (B5.cells (unhide hG).c).2.2.2.1
    have lq := World.block_lt_of_cell? _ _ c3
    by_cases hlt : i < 127
    · have i0 : (0 : Int) ≤ (i : Int) := by omega
      have i1 : (i : Int) < 127 := by omega
      by_cases hin : i < 64
      · have i2 : (i : Int) < 64 := by omega
        have HP : Hid ((tb 64)[i]? = some ((1 : Int), (0 : Int))) := by
          unfold Hid tb
          rw [List.getElem?_map, List.getElem?_range (by omega)]
          simp
          omega
        have HMR : Hid (Ro (wr.alloc (.cells #[.int .i64 1, .int .i64 0] 29)) 2 (.slice va i vc) i (flt enI ((tb 64).take i))) := by
          have hMR := (unhide hG).hr
          rw [htl] at hMR
          exact hMR.keep (fun g hg => Below.heap_alloc _ _ _ (hMR.lt g hg))
        have HNC : Hid (∀ j u, (enI ((1 : Int), (0 : Int)))[j]? = some u → (wr.alloc (.cells #[.int .i64 1, .int .i64 0] 29)).cell? ((⟨wr.heap.size, 0, none⟩ : Addr).add j) = some u) := new_cells wr #[.int .i64 1, .int .i64 0] 29
        go_wp2_with (first | (at_builtin; refine appI rfl _ _ rfl (.slice va i vc) i (flt enI ((tb 64).take i)) rfl (unhide HMR) ⟨wr.heap.size, 0, none⟩ 1 (1, 0) rfl (unhide HNC) (by omega) ?_; intro v5 w5 hr5 hg5 hat5; obtain ⟨va5, vc5, ev5, _, _⟩ := hr5.shape; subst ev5; obtain ⟨y1, yz, yb, HF8⟩ := (unhide hG).push (p := (1, 0)) (by rw [htl]; exact hr5) hg5 (by simpa using hat5); have ly := World.block_lt_of_cell? _ _ y1; clear hr5 hg5 hat5))
        obtain ⟨W9, eW9⟩ : ∃ W9, W9 = w5.setCell ⟨w.heap.size + 1, 3, none⟩ (.slice va5 (i + 1) vc5) := ⟨_, rfl⟩
        rw [← eW9] at HF8 ⊢
        rw [← take_push (unhide HP)] at HF8
        clear eW9
        go_wp2_with fail
        go_roundg (gk - 1)
        case measure => have := unhide hi; omega
        case rel => exact ⟨i + 1, _, by unfold Hid; have := unhide hi; omega, by go_num, HF8⟩
      · have i2 : (64 : Int) ≤ (i : Int) := by omega
        have HP : Hid ((tb 64)[i]? = some ((7 : Int), (0 : Int))) := by
          unfold Hid tb
          rw [List.getElem?_map, List.getElem?_range (by omega)]
          simp
          omega
        have HMR : Hid (Ro (wr.alloc (.cells #[.int .i64 7, .int .i64 0] 29)) 2 (.slice va i vc) i (flt enI ((tb 64).take i))) := by
          have hMR := (unhide hG).hr
          rw [htl] at hMR
          exact hMR.keep (fun g hg => Below.heap_alloc _ _ _ (hMR.lt g hg))
        have HNC : Hid (∀ j u, (enI ((7 : Int), (0 : Int)))[j]? = some u → (wr.alloc (.cells #[.int .i64 7, .int .i64 0] 29)).cell? ((⟨wr.heap.size, 0, none⟩ : Addr).add j) = some u) := new_cells wr #[.int .i64 7, .int .i64 0] 29
        go_wp2_with (first | (at_builtin; refine appI rfl _ _ rfl (.slice va i vc) i (flt enI ((tb 64).take i)) rfl (unhide HMR) ⟨wr.heap.size, 0, none⟩ 1 (7, 0) rfl (unhide HNC) (by omega) ?_; intro v5 w5 hr5 hg5 hat5; obtain ⟨va5, vc5, ev5, _, _⟩ := hr5.shape; subst ev5; obtain ⟨y1, yz, yb, HF8⟩ := (unhide hG).push (p := (7, 0)) (by rw [htl]; exact hr5) hg5 (by simpa using hat5); have ly := World.block_lt_of_cell? _ _ y1; clear hr5 hg5 hat5))
        obtain ⟨W9, eW9⟩ : ∃ W9, W9 = w5.setCell ⟨w.heap.size + 1, 3, none⟩ (.slice va5 (i + 1) vc5) := ⟨_, rfl⟩
        rw [← eW9] at HF8 ⊢
        rw [← take_push (unhide HP)] at HF8
        clear eW9
        go_wp2_with fail
        go_roundg (gk - 1)
        case measure => have := unhide hi; omega
        case rel => exact ⟨i + 1, _, by unfold Hid; have := unhide hi; omega, by go_num, HF8⟩
    · have hiL : i = 127 := by have := unhide hi; omega
      subst hiL
      have hlt' : (tb 64).take 127 = tb 64 := List.take_of_length_le (by unfold tb; simp)
      rw [hlt'] at hG htl
      have HMR : Hid (Ro (wr.alloc (.cells #[.int .i64 44, .int .i64 0] 29)) 2 (.slice va 127 vc) 127 (flt enI (tb 64))) := by
        have hMR := (unhide hG).hr
        rw [htl] at hMR
        exact hMR.keep (fun g hg => Below.heap_alloc _ _ _ (hMR.lt g hg))
      have HNC : Hid (∀ j u, (enI ((44 : Int), (0 : Int)))[j]? = some u → (wr.alloc (.cells #[.int .i64 44, .int .i64 0] 29)).cell? ((⟨wr.heap.size, 0, none⟩ : Addr).add j) = some u) := new_cells wr #[.int .i64 44, .int .i64 0] 29
      clear hlt hlt'
      go_wp2_with (first | (at_builtin; refine appI rfl _ _ rfl (.slice va 127 vc) 127 (flt enI (tb 64)) rfl (unhide HMR) ⟨wr.heap.size, 0, none⟩ 1 (44, 0) rfl (unhide HNC) (by omega) ?_; intro v5 w5 hr5 hg5 hat5; obtain ⟨va5, vc5, ev5, _, _⟩ := hr5.shape; subst ev5; obtain ⟨y1, yz, yb, HF8⟩ := (unhide hG).push (p := (44, 0)) (by rw [htl]; exact hr5) hg5 (by simpa using hat5); have ly := World.block_lt_of_cell? _ _ y1; obtain ⟨rr0, rr1⟩ := (unhide hG).boxes hg5; obtain ⟨z0, z1, z2, z3, z4⟩ := B5.cells rr1; obtain ⟨q0, q1, q2, q3, q4⟩ := B5.cells rr0; have ql := World.block_lt_of_cell? _ _ q0; have qf0 := rr0.free rfl 0; have qf1 := rr0.free rfl 1; have qf2 := rr0.free rfl 2; have qf3 := rr0.free rfl 3; have qf4 := rr0.free rfl 4; clear rr0 rr1; clear hr5 hg5 hat5))

      refine bodyPost_ret (v := .agg #[.string ⟨#[109, 97, 105, 110]⟩, .int .i64 0, .int .i64 0, .slice va5 128 vc5, .slice none 0 0]) ?_ rfl ?_
      · rw [results_cell_one rfl]
        go_simp
      · exact ⟨_, rfl, (unhide HF8).end (fr5 _ _ _ _ _ _ _)⟩
set_option maxRecDepth 100000 in
set_option maxHeartbeats 6400000 in
theorem tower65_any {w : World} : Calls Tryd.prog 13 #[.int .i64 65] w fun e w' => ∃ v, e = .returned v ∧ FnG w mainB (twr 65) v w' := by
  have HF0 := hide (FB.first w mainB (t := 25))
  rw [show mainB = ⟨#[109, 97, 105, 110]⟩ from rfl] at HF0
  go_enter Tryd.func13, Tryd.ntmps13
  go_wp2_with fail
  go_loopg [4] 129 (fun g t4 wr => ∃ (i : Nat) (v : Value), Hid (i + g = 129) ∧ t4 = .int .i64 (i : Int) ∧ Hid (FB w ⟨#[109, 97, 105, 110]⟩ v ((tb 65).take i) wr))
  case atStart => exact ⟨0, _, by unfold Hid; omega, rfl, HF0⟩
  case round =>
    obtain ⟨i, v, hi, rfl, hG⟩ := hrel
    have htl : ((tb 65).take i).length = i := by rw [List.length_take]; unfold tb; rw [List.length_map, List.length_range]; have := unhide hi; omega
    have hsh := (unhide hG).hr.shape
    rw [htl] at hsh
    obtain ⟨va, vc, ev, _, _⟩ := hsh
    subst ev
    have c3 := (B5.cells (unhide hG).c).2.2.2.1
    have lq := World.block_lt_of_cell? _ _ c3
    by_cases hlt : i < 129
    · have i0 : (0 : Int) ≤ (i : Int) := by omega
      have i1 : (i : Int) < 129 := by omega
      by_cases hin : i < 65
      · have i2 : (i : Int) < 65 := by omega
        have HP : Hid ((tb 65)[i]? = some ((1 : Int), (0 : Int))) := by
          unfold Hid tb
          rw [List.getElem?_map, List.getElem?_range (by omega)]
          simp
          omega
        have HMR : Hid (Ro (wr.alloc (.cells #[.int .i64 1, .int .i64 0] 29)) 2 (.slice va i vc) i (flt enI ((tb 65).take i))) := by
          have hMR := (unhide hG).hr
          rw [htl] at hMR
          exact hMR.keep (fun g hg => Below.heap_alloc _ _ _ (hMR.lt g hg))
        have HNC : Hid (∀ j u, (enI ((1 : Int), (0 : Int)))[j]? = some u → (wr.alloc (.cells #[.int .i64 1, .int .i64 0] 29)).cell? ((⟨wr.heap.size, 0, none⟩ : Addr).add j) = some u) := new_cells wr #[.int .i64 1, .int .i64 0] 29
        go_wp2_with (first | (at_builtin; refine appI rfl _ _ rfl (.slice va i vc) i (flt enI ((tb 65).take i)) rfl (unhide HMR) ⟨wr.heap.size, 0, none⟩ 1 (1, 0) rfl (unhide HNC) (by omega) ?_; intro v5 w5 hr5 hg5 hat5; obtain ⟨va5, vc5, ev5, _, _⟩ := hr5.shape; subst ev5; obtain ⟨y1, yz, yb, HF8⟩ := (unhide hG).push (p := (1, 0)) (by rw [htl]; exact hr5) hg5 (by simpa using hat5); have ly := World.block_lt_of_cell? _ _ y1; clear hr5 hg5 hat5))
        obtain ⟨W9, eW9⟩ : ∃ W9, W9 = w5.setCell ⟨w.heap.size + 1, 3, none⟩ (.slice va5 (i + 1) vc5) := ⟨_, rfl⟩
        rw [← eW9] at HF8 ⊢
        rw [← take_push (unhide HP)] at HF8
        clear eW9
        go_wp2_with fail
        go_roundg (gk - 1)
        case measure => have := unhide hi; omega
        case rel => exact ⟨i + 1, _, by unfold Hid; have := unhide hi; omega, by go_num, HF8⟩
      · have i2 : (65 : Int) ≤ (i : Int) := by omega
        have HP : Hid ((tb 65)[i]? = some ((7 : Int), (0 : Int))) := by
          unfold Hid tb
          rw [List.getElem?_map, List.getElem?_range (by omega)]
          simp
          omega
        have HMR : Hid (Ro (wr.alloc (.cells #[.int .i64 7, .int .i64 0] 29)) 2 (.slice va i vc) i (flt enI ((tb 65).take i))) := by
          have hMR := (unhide hG).hr
          rw [htl] at hMR
          exact hMR.keep (fun g hg => Below.heap_alloc _ _ _ (hMR.lt g hg))
        have HNC : Hid (∀ j u, (enI ((7 : Int), (0 : Int)))[j]? = some u → (wr.alloc (.cells #[.int .i64 7, .int .i64 0] 29)).cell? ((⟨wr.heap.size, 0, none⟩ : Addr).add j) = some u) := new_cells wr #[.int .i64 7, .int .i64 0] 29
        go_wp2_with (first | (at_builtin; refine appI rfl _ _ rfl (.slice va i vc) i (flt enI ((tb 65).take i)) rfl (unhide HMR) ⟨wr.heap.size, 0, none⟩ 1 (7, 0) rfl (unhide HNC) (by omega) ?_; intro v5 w5 hr5 hg5 hat5; obtain ⟨va5, vc5, ev5, _, _⟩ := hr5.shape; subst ev5; obtain ⟨y1, yz, yb, HF8⟩ := (unhide hG).push (p := (7, 0)) (by rw [htl]; exact hr5) hg5 (by simpa using hat5); have ly := World.block_lt_of_cell? _ _ y1; clear hr5 hg5 hat5))
        obtain ⟨W9, eW9⟩ : ∃ W9, W9 = w5.setCell ⟨w.heap.size + 1, 3, none⟩ (.slice va5 (i + 1) vc5) := ⟨_, rfl⟩
        rw [← eW9] at HF8 ⊢
        rw [← take_push (unhide HP)] at HF8
        clear eW9
        go_wp2_with fail
        go_roundg (gk - 1)
        case measure => have := unhide hi; omega
        case rel => exact ⟨i + 1, _, by unfold Hid; have := unhide hi; omega, by go_num, HF8⟩
    · have hiL : i = 129 := by have := unhide hi; omega
      subst hiL
      have hlt' : (tb 65).take 129 = tb 65 := List.take_of_length_le (by unfold tb; simp)
      rw [hlt'] at hG htl
      have HMR : Hid (Ro (wr.alloc (.cells #[.int .i64 44, .int .i64 0] 29)) 2 (.slice va 129 vc) 129 (flt enI (tb 65))) := by
        have hMR := (unhide hG).hr
        rw [htl] at hMR
        exact hMR.keep (fun g hg => Below.heap_alloc _ _ _ (hMR.lt g hg))
      have HNC : Hid (∀ j u, (enI ((44 : Int), (0 : Int)))[j]? = some u → (wr.alloc (.cells #[.int .i64 44, .int .i64 0] 29)).cell? ((⟨wr.heap.size, 0, none⟩ : Addr).add j) = some u) := new_cells wr #[.int .i64 44, .int .i64 0] 29
      clear hlt hlt'
      go_wp2_with (first | (at_builtin; refine appI rfl _ _ rfl (.slice va 129 vc) 129 (flt enI (tb 65)) rfl (unhide HMR) ⟨wr.heap.size, 0, none⟩ 1 (44, 0) rfl (unhide HNC) (by omega) ?_; intro v5 w5 hr5 hg5 hat5; obtain ⟨va5, vc5, ev5, _, _⟩ := hr5.shape; subst ev5; obtain ⟨y1, yz, yb, HF8⟩ := (unhide hG).push (p := (44, 0)) (by rw [htl]; exact hr5) hg5 (by simpa using hat5); have ly := World.block_lt_of_cell? _ _ y1; obtain ⟨rr0, rr1⟩ := (unhide hG).boxes hg5; obtain ⟨z0, z1, z2, z3, z4⟩ := B5.cells rr1; obtain ⟨q0, q1, q2, q3, q4⟩ := B5.cells rr0; have ql := World.block_lt_of_cell? _ _ q0; have qf0 := rr0.free rfl 0; have qf1 := rr0.free rfl 1; have qf2 := rr0.free rfl 2; have qf3 := rr0.free rfl 3; have qf4 := rr0.free rfl 4; clear rr0 rr1; clear hr5 hg5 hat5))

      refine bodyPost_ret (v := .agg #[.string ⟨#[109, 97, 105, 110]⟩, .int .i64 0, .int .i64 0, .slice va5 130 vc5, .slice none 0 0]) ?_ rfl ?_
      · rw [results_cell_one rfl]
        go_simp
      · exact ⟨_, rfl, (unhide HF8).end (fr5 _ _ _ _ _ _ _)⟩
end Go.Proofs.YtiknljilfpekfaaDoor
