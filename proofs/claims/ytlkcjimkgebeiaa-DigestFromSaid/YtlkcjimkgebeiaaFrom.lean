/-
  From, the program's and the document's.
-/
import Derived.Test.YtlkcjimkgebeiaaKit
namespace Go.Proofs.Ytlkcjimkgebeiaa
open Go.RowKit

theorem Try.info22 : (Try.prog.info? 22).map (·.size) = some 32 := by kernel_rfl
def z32 : List Int := List.replicate 32 0
theorem z32_len : z32.length = 32 := rfl
theorem Try.zero22 : (Try.prog.info? 22).map (fun i => (i.zero, i.size)) = some (some (.agg (Ar .u8 z32)), 32) := by kernel_rfl
/-- The digest that bytes are. -/
def dig (B : List Int) : List Int := if B.length = 32 then B else z32
theorem dig_len (B : List Int) : (dig B).length = 32 := by unfold dig; split; assumption; rfl
/-- What From answers. -/
def FromV (B : List Int) : Value := .tuple #[.agg (Ar .u8 (dig B)), .bool (decide (B.length = 32))]

set_option maxHeartbeats 1600000 in
set_option maxRecDepth 100000 in
theorem from_bad (v : Value) (B : List Int) (w : World) (hR : Rd w v B) (hne : B.length ≠ 32) :
    Calls Try.prog 9 #[v] w fun e w' => e = .returned (FromV B) ∧ Below w.heap.size w w' := by
  obtain ⟨a, cap, rfl⟩ := hR.shapeR
  have hF : Hid (FromV B = .tuple #[.agg (Ar .u8 z32), .bool false]) := by
    show FromV B = _
    unfold FromV dig; rw [if_neg hne, decide_eq_false hne]
  have H1 := hide (Seg.fresh w 22 .u8 z32)
  have H2 : Hid (Seg ((w.alloc (.cells (Ar .u8 z32) 22)).alloc (.cells (Ar .u8 z32) 22)) (w.heap.size + 1) 0 .u8 z32) := by
    have := Seg.fresh (w.alloc (.cells (Ar .u8 z32) 22)) 22 .u8 z32
    simpa [Hid] using this
  have hz := hide Try.zero22
  obtain ⟨n, hn⟩ : ∃ n, Hid (B.length = n) := ⟨_, rfl⟩
  rw [unhide hn] at hne ⊢
  have hne' : ((n : Nat) : Int) ≠ 32 := by omega
  clear hR
  go_enter Try.func9, Try.ntmps9
  go_wp2_with (first | (refine wpList_alloc_ar rfl 22 rfl (Ar .u8 z32) 32 (unhide hz) ?_) | (refine wpList_load_ar rfl 22 _ rfl (w.heap.size + 1) 0 rfl .u8 z32 _ 32 (unhide H2) z32_len Try.underlying22 rfl Try.info22 ?_) | (refine wpList_store_ar rfl 22 _ _ rfl w.heap.size 0 rfl .u8 z32 32 rfl z32_len ((unhide H1).alloc _).2 Try.info22 ?_))
  have hs := Seg.stored (k := .u8) z32 (((unhide H1).alloc (.cells (Ar .u8 z32) 22)).2)
  refine bodyPost_ret (v := .tuple #[.agg (Ar .u8 z32), .bool false]) ?_ rfl ⟨by rw [unhide hF], ?_⟩
  · rw [results_cell_tmp rfl]
    have hld := run_loadVar_ar (P := Try.prog) _ w.heap.size 0 22 .u8 z32 _ 32 hs z32_len Try.underlying22 rfl Try.info22
    simp [asAddr, Result.andThen, hld]
  · have F := Fr.setCells (S := fun _ => False) (a := w) w.heap.size (.inl (Nat.le_refl _)) (z32.map (Value.int .u8)) 0 (((Fr.refl _ w).alloc (.cells (Ar .u8 z32) 22)).alloc (.cells (Ar .u8 z32) 22))
    exact F.below (Nat.le_refl _) (by simp)

set_option maxHeartbeats 1600000 in
set_option maxRecDepth 100000 in
theorem from_good (v : Value) (B : List Int) (w : World) (hR : Rd w v B) (heq : B.length = 32) :
    Calls Try.prog 9 #[v] w fun e w' => e = .returned (FromV B) ∧ Below w.heap.size w w' := by
  obtain ⟨a, cap, rfl⟩ := hR.shapeR
  have hF : Hid (FromV B = .tuple #[.agg (Ar .u8 B), .bool true]) := by
    show FromV B = _
    unfold FromV dig; rw [if_pos heq, decide_eq_true heq]
  have H1 := hide (Seg.fresh w 22 .u8 z32)
  have H2 : Hid (Seg ((w.alloc (.cells (Ar .u8 z32) 22)).alloc (.cells (Ar .u8 z32) 22)) (w.heap.size + 1) 0 .u8 z32) := by
    have := Seg.fresh (w.alloc (.cells (Ar .u8 z32) 22)) 22 .u8 z32
    simpa [Hid] using this
  have hR2 : Hid (Rd ((w.alloc (.cells (Ar .u8 z32) 22)).alloc (.cells (Ar .u8 z32) 22)) (.slice a 32 cap) B) := by
    rw [← heq]; exact hR.below (((Below.refl _ _).alloc (Nat.le_refl _) _).alloc (by simp) _)
  have hz := hide Try.zero22
  have hn := hide heq
  have hmn : Hid (min B.length 32 = 32) := by rw [Hid, heq]; rfl
  have htk : Hid (B.take 32 = B) := List.take_of_length_le (by omega)
  have H3 : Hid (Seg (((w.alloc (.cells (Ar .u8 z32) 22)).alloc (.cells (Ar .u8 z32) 22)).setCells (w.heap.size + 1) 0 (B.map (Value.int .u8))) (w.heap.size + 1) 0 .u8 B) := Seg.stored B (by rw [heq]; exact (unhide H2).2)
  have H4 : Hid ((((w.alloc (.cells (Ar .u8 z32) 22)).alloc (.cells (Ar .u8 z32) 22)).setCells (w.heap.size + 1) 0 (B.map (Value.int .u8))).there w.heap.size 0 32) := World.there_setCells ((unhide H1).alloc _).2 _ _ _
  rw [heq]
  clear hR heq
  go_enter Try.func9, Try.ntmps9
  go_wp2_with (first | (refine wpList_alloc_ar rfl 22 rfl (Ar .u8 z32) 32 (unhide hz) ?_) | (refine wpList_copy_ar rfl _ _ rfl (w.heap.size + 1) 0 32 32 rfl (.slice a 32 cap) B rfl (unhide hR2) (by rw [unhide hmn]; exact (unhide H2).2) ?_; rw [unhide htk, unhide hmn]) | (refine wpList_load_ar rfl 22 _ rfl (w.heap.size + 1) 0 rfl .u8 B _ 32 (unhide H3) (unhide hn) Try.underlying22 rfl Try.info22 ?_) | (refine wpList_store_ar rfl 22 _ _ rfl w.heap.size 0 rfl .u8 B 32 rfl (unhide hn) (unhide H4) Try.info22 ?_))
  have hs := Seg.stored (k := .u8) B (by rw [unhide hn]; exact unhide H4)
  refine bodyPost_ret (v := .tuple #[.agg (Ar .u8 B), .bool true]) ?_ rfl ⟨by rw [unhide hF], ?_⟩
  · rw [results_cell_tmp rfl]
    have hld := run_loadVar_ar (P := Try.prog) _ w.heap.size 0 22 .u8 B _ 32 hs (unhide hn) Try.underlying22 rfl Try.info22
    simp [asAddr, Result.andThen, hld]
  · have F := Fr.setCells (S := fun _ => False) (a := w) w.heap.size (.inl (Nat.le_refl _)) (B.map (Value.int .u8)) 0 (Fr.setCells (S := fun _ => False) (a := w) (w.heap.size + 1) (.inl (by omega)) (B.map (Value.int .u8)) 0 (((Fr.refl _ w).alloc (.cells (Ar .u8 z32) 22)).alloc (.cells (Ar .u8 z32) 22)))
    exact F.below (Nat.le_refl _) (by simp)
theorem from_any (v : Value) (B : List Int) (w : World) (hR : Rd w v B) :
    Calls Try.prog 9 #[v] w fun e w' => e = .returned (FromV B) ∧ Below w.heap.size w w' := by
  by_cases h : B.length = 32
  · exact from_good v B w hR h
  · exact from_bad v B w hR h
end Go.Proofs.Ytlkcjimkgebeiaa
