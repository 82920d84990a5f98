/-
  From, the document's.
-/
import Derived.Test.YtlkcjimkgebeiaaFrom
namespace Go.Proofs.Ytlkcjimkgebeiaa
open Go.RowKit

set_option maxHeartbeats 1600000 in
set_option maxRecDepth 100000 in
theorem refFrom_bad (v : Value) (B : List Int) (w : World) (hR : Rd w v B) (hne : B.length ≠ 32) :
    Calls Try.prog 8 #[v] w fun e w' => e = .returned (FromV B) ∧ Below w.heap.size w w' := by
  obtain ⟨a, cap, rfl⟩ := hR.shapeR
  have hF : Hid (FromV B = .tuple #[.agg (Ar .u8 z32), .bool false]) := by
    show FromV B = _
    unfold FromV dig; rw [if_neg hne, decide_eq_false hne]
  have H1 := hide (Seg.fresh w 22 .u8 z32)
  have H2 : Hid (Seg ((w.alloc (.cells (Ar .u8 z32) 22)).alloc (.cells (Ar .u8 z32) 22)) (w.heap.size + 1) 0 .u8 z32) := by
    have := Seg.fresh (w.alloc (.cells (Ar .u8 z32) 22)) 22 .u8 z32
    simpa [Hid] using this
  have hz := hide Try.zero22
  obtain ⟨n, hn⟩ : ∃ n, Hid (B.length = n) := ⟨_, rfl⟩
  rw [unhide hn] at hne ⊢
  have hne' : ((n : Nat) : Int) ≠ 32 := by omega
  clear hR
  go_enter Try.func8, Try.ntmps8
  go_wp2_with (first | (refine wpList_alloc_ar rfl 22 rfl (Ar .u8 z32) 32 (unhide hz) ?_) | (refine wpList_load_ar rfl 22 _ rfl (w.heap.size + 1) 0 rfl .u8 z32 _ 32 (unhide H2) z32_len Try.underlying22 rfl Try.info22 ?_) | (refine wpList_store_ar rfl 22 _ _ rfl w.heap.size 0 rfl .u8 z32 32 rfl z32_len ((unhide H1).alloc _).2 Try.info22 ?_))
  have hs := Seg.stored (k := .u8) z32 (((unhide H1).alloc (.cells (Ar .u8 z32) 22)).2)
  refine bodyPost_ret (v := .tuple #[.agg (Ar .u8 z32), .bool false]) ?_ rfl ⟨by rw [unhide hF], ?_⟩
  · rw [results_cell_tmp rfl]
    have hld := run_loadVar_ar (P := Try.prog) _ w.heap.size 0 22 .u8 z32 _ 32 hs z32_len Try.underlying22 rfl Try.info22
    simp [asAddr, Result.andThen, hld]
  · have F := Fr.setCells (S := fun _ => False) (a := w) w.heap.size (.inl (Nat.le_refl _)) (z32.map (Value.int .u8)) 0 (((Fr.refl _ w).alloc (.cells (Ar .u8 z32) 22)).alloc (.cells (Ar .u8 z32) 22))
    exact F.below (Nat.le_refl _) (by simp)

theorem take_set1 (xs B : List Int) (n : Nat) (h : n < xs.length) (hB : n < B.length) (e : xs.take n = B.take n) : (xs.set n (B.getD n 0)).take (n + 1) = B.take (n + 1) := by
  rw [take_getD0 (xs.set n (B.getD n 0)) n (by simpa using h), take_getD0 B n hB, set_length_take xs n n (Nat.le_refl _), e]
  simp [List.getD, h]

set_option maxHeartbeats 1600000 in
set_option maxRecDepth 100000 in
theorem refFrom_good (v : Value) (B : List Int) (w : World) (hR : Rd w v B) (heq : B.length = 32) :
    Calls Try.prog 8 #[v] w fun e w' => e = .returned (FromV B) ∧ Below w.heap.size w w' := by
  obtain ⟨a, cap, rfl⟩ := hR.shapeR
  have hF : Hid (FromV B = .tuple #[.agg (Ar .u8 B), .bool true]) := by
    show FromV B = _
    unfold FromV dig; rw [if_pos heq, decide_eq_true heq]
  have H1 := hide (Seg.fresh w 22 .u8 z32)
  have H2 : Hid (Seg ((w.alloc (.cells (Ar .u8 z32) 22)).alloc (.cells (Ar .u8 z32) 22)) (w.heap.size + 1) 0 .u8 z32) := by
    have := Seg.fresh (w.alloc (.cells (Ar .u8 z32) 22)) 22 .u8 z32
    simpa [Hid] using this
  have hz := hide Try.zero22
  have hn := hide heq
  have HR := hide hR
  rw [heq] at HR ⊢
  have HB0 : Hid (Below w.heap.size w ((w.alloc (.cells (Ar .u8 z32) 22)).alloc (.cells (Ar .u8 z32) 22))) := ((Below.refl _ _).alloc (Nat.le_refl _) _).alloc (by simp) _
  clear hR heq
  go_enter Try.func8, Try.ntmps8
  go_wp2_with (first | (refine wpList_alloc_ar rfl 22 rfl (Ar .u8 z32) 32 (unhide hz) ?_))
  go_loopg [5] 32 (fun k s wr => ∃ (j : Nat) (xs : List Int), Hid (j + k = 32) ∧ j ≤ 32 ∧ s = .int .i64 (j : Int) ∧ Hid (xs.length = 32 ∧ xs.take j = B.take j) ∧ Hid (Seg wr (w.heap.size + 1) 0 .u8 xs ∧ wr.there w.heap.size 0 32) ∧ Hid (Below w.heap.size w wr))
  case atStart => exact ⟨0, z32, by unfold Hid; omega, by omega, rfl, ⟨rfl, rfl⟩, ⟨unhide H2, ((unhide H1).alloc _).2⟩, HB0⟩
  case round =>
    obtain ⟨j, xs, hj, hj32, rfl, hxs, hG, hW⟩ := hrel
    by_cases hlt : j < 32
    · obtain ⟨cb, co, rfl, hcb, hc⟩ := (unhide HR).at j (by rw [unhide hn]; exact hlt)
      have hcell : wr.cell? ⟨cb, co + j, none⟩ = some (.int .u8 (B.getD j 0)) := ((unhide hW).cell (p := ⟨cb, co + j, none⟩) hcb).trans hc
      have hc1 := (unhide hG).1.cell j (by rw [(unhide hxs).1]; omega)
      have hf1 := (unhide hG).1.frz j (by rw [(unhide hxs).1]; omega)
      rw [Nat.zero_add] at hc1 hf1
      have hst := hide (take_set1 xs B j (by rw [(unhide hxs).1]; omega) (by rw [unhide hn]; omega) (unhide hxs).2)
      have hG2 : Hid (Seg (wr.setCell ⟨w.heap.size + 1, j, none⟩ (.int .u8 (B.getD j 0))) (w.heap.size + 1) 0 .u8 (xs.set j (B.getD j 0))) := by
        have := (unhide hG).1.set j (by rw [(unhide hxs).1]; omega) (B.getD j 0)
        rw [Nat.zero_add] at this
        exact this
      have hG3 : Hid ((wr.setCell ⟨w.heap.size + 1, j, none⟩ (.int .u8 (B.getD j 0))).there w.heap.size 0 32) := World.there_setCells (unhide hG).2 (w.heap.size + 1) j [.int .u8 (B.getD j 0)]
      generalize xs.getD j 0 = o1 at *
      generalize B.getD j 0 = b at *
      have i1 : (0 : Int) ≤ (j : Int) := by omega
      have i2 : (j : Int) < 32 := by omega
      clear hc
      go_wp2
      go_roundg (gk - 1)
      case measure => have := unhide hj; omega
      case rel => exact ⟨j + 1, xs.set j b, by have := unhide hj; unfold Hid; omega, by omega, by go_num, ⟨by rw [List.length_set]; exact (unhide hxs).1, unhide hst⟩, ⟨unhide hG2, unhide hG3⟩, (unhide hW).setCell (p := ⟨w.heap.size + 1, j, none⟩) (by simp) _⟩
    · obtain rfl : j = 32 := by omega
      have e : xs = B := by
        have := (unhide hxs).2
        rw [List.take_of_length_le (by rw [(unhide hxs).1]; omega), List.take_of_length_le (by rw [unhide hn]; omega)] at this
        exact this
      subst e
      go_wp2_with (first | (refine wpList_load_ar rfl 22 _ rfl (w.heap.size + 1) 0 rfl .u8 xs _ 32 (unhide hG).1 (unhide hn) Try.underlying22 rfl Try.info22 ?_) | (refine wpList_store_ar rfl 22 _ _ rfl w.heap.size 0 rfl .u8 xs 32 rfl (unhide hn) (unhide hG).2 Try.info22 ?_))
      have hs := Seg.stored (k := .u8) xs (by rw [unhide hn]; exact (unhide hG).2)
      refine bodyPost_ret (v := .tuple #[.agg (Ar .u8 xs), .bool true]) ?_ rfl ⟨by rw [unhide hF], ?_⟩
      · rw [results_cell_tmp rfl]
        have hld := run_loadVar_ar (P := Try.prog) _ w.heap.size 0 22 .u8 xs _ 32 hs (unhide hn) Try.underlying22 rfl Try.info22
        simp [asAddr, Result.andThen, hld]
      · have F := Fr.setCells (S := fun _ => False) (a := w) w.heap.size (.inl (Nat.le_refl _)) (xs.map (Value.int .u8)) 0 (Fr.of_below (unhide hW))
        exact F.below (Nat.le_refl _) (by simp)
theorem refFrom_any (v : Value) (B : List Int) (w : World) (hR : Rd w v B) :
    Calls Try.prog 8 #[v] w fun e w' => e = .returned (FromV B) ∧ Below w.heap.size w w' := by
  by_cases h : B.length = 32
  · exact refFrom_good v B w hR h
  · exact refFrom_bad v B w hR h
end Go.Proofs.Ytlkcjimkgebeiaa
