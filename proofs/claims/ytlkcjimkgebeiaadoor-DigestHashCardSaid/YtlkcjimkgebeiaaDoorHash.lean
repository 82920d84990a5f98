/-
  A hash in memory.
-/
import Derived.Test.YtlkcjimkgebeiaaDoorPad2
namespace Go.Proofs.YtlkcjimkgebeiaaDoor
open Go.RowKit

/-- A hash at block p. -/
structure Hs (w : World) (p : Nat) (v op : List Int) (n : Nat) (tl dg : List Int) : Prop where
  wds : Seg w p 0 .u32 v
  opn : Seg w p 8 .u8 op
  cnt : Seg w p 72 .u64 [(n : Int)]
  til : Seg w p 73 .u8 tl
  dgs : Seg w p 201 .u8 dg
  lv : v.length = 8
  lo : op.length = 64
  lt : tl.length = 128
  ld : dg.length = 32
  bo : BOk op
theorem Hs.keepB {w w' : World} {p : Nat} {v op : List Int} {n : Nat} {tl dg : List Int} (h : Hs w p v op n tl dg) (hb : w'.heap[p]? = w.heap[p]?) : Hs w' p v op n tl dg :=
  ⟨h.wds.keepB hb, h.opn.keepB hb, h.cnt.keepB hb, h.til.keepB hb, h.dgs.keepB hb, h.lv, h.lo, h.lt, h.ld, h.bo⟩
theorem Hs.lt' {w : World} {p : Nat} {v op : List Int} {n : Nat} {tl dg : List Int} (h : Hs w p v op n tl dg) : p < w.heap.size := World.block_lt_of_cell? _ _ (h.cnt.cell 0 (by simp))
theorem Seg.of_block {w : World} {b : Nat} {C : Array Value} {t : TypeId} (hb : w.heap[b]? = some (.cells C t)) (k : IntKind) (A : List Value) (xs : List Int) (B : List Value) (hC : C.toList = A ++ (xs.map (Value.int k) ++ B)) : Seg w b A.length k xs := by
  have hcell : ∀ j v, (xs.map (Value.int k))[j]? = some v → w.cell? ⟨b, A.length + j, none⟩ = some v := fun j v hv => by
    rw [cell_of_row w b (A.length + j) C t (0, 0) hb, ← Array.getElem?_toList, hC, List.getElem?_append_right (by omega), Nat.add_sub_cancel_left, List.getElem?_append_left (List.getElem?_eq_some_iff.1 hv).1]
    exact hv
  refine ⟨hcell, fun j hj => ⟨?_, ?_⟩⟩
  · rw [hcell j (.int k (xs.getD j 0)) (by simp [List.getD, hj])]; rfl
  · unfold World.frozen?; rw [hb]; simp

def hash0 : List Value := iv.map (Value.int .u32) ++ (z64.map (Value.int .u8) ++ ([Value.int .u64 0] ++ (z128.map (Value.int .u8) ++ z32.map (Value.int .u8))))
theorem build56 (w : World) : (Instr.build 56 #[(0, .agg (Ar .u32 iv))]).run Tryd.prog w = .ok (.agg hash0.toArray) w := by kernel_rfl
theorem hash0_ok {w : World} {p : Nat} (hb : w.heap[p]? = some (.cells hash0.toArray 56)) : Hs w p iv z64 0 z128 z32 := by
  have hz : (z128.map (Value.int .u8)).length = 128 := by rw [List.length_map]; exact z128_len
  refine ⟨?_, ?_, ?_, ?_, ?_, rfl, rfl, z128_len, rfl, ?_⟩
  · exact Seg.of_block hb .u32 [] iv _ rfl
  · exact Seg.of_block hb .u8 (iv.map (Value.int .u32)) z64 _ rfl
  · have := Seg.of_block hb .u64 (iv.map (Value.int .u32) ++ z64.map (Value.int .u8)) [((0 : Nat) : Int)] (z128.map (Value.int .u8) ++ z32.map (Value.int .u8)) (by show hash0 = _; simp [hash0])
    exact this
  · have := Seg.of_block hb .u8 (iv.map (Value.int .u32) ++ z64.map (Value.int .u8) ++ [Value.int .u64 0]) z128 (z32.map (Value.int .u8)) (by show hash0 = _; simp [hash0])
    exact this
  · have := Seg.of_block hb .u8 (iv.map (Value.int .u32) ++ z64.map (Value.int .u8) ++ [Value.int .u64 0] ++ z128.map (Value.int .u8)) z32 [] (by show hash0 = _; simp [hash0])
    rw [List.length_append, hz] at this
    exact this
  · intro b hb; have := List.eq_of_mem_replicate hb; omega

theorem build56m (a : Act) (x : Operand) (hx : a.eval x = .agg (Ar .u32 iv)) (w : World) : (Instr.build 56 ((#[(0, x)] : Array (Nat × Operand)).map fun (i, x) => (i, a.eval x))).run Tryd.prog w = .ok (.agg hash0.toArray) w := by
  simp only [List.map_toArray, List.map_cons, List.map_nil, hx]; exact build56 w

set_option maxHeartbeats 1600000 in
set_option maxRecDepth 100000 in
theorem new_any (w : World) : Calls Tryd.prog 12 #[] w fun e w' => ∃ p, e = .returned (.pointer (some ⟨p, 0, none⟩)) ∧ w.heap.size ≤ p ∧ Hs w' p iv z64 0 z128 z32 ∧ Below w.heap.size w w' := by
  go_enter Tryd.func12, Tryd.ntmps12
  go_wp2_with fail
  refine (start_any _).mono ?_
  rintro e w1 ⟨rfl, hb1⟩
  have HB := hide hb1
  clear hb1
  obtain ⟨C, hC⟩ : ∃ C, Hid (hash0.toArray = C) := ⟨_, rfl⟩
  go_wp2_with (first | (refine wpList_build rfl 56 _ rfl (.agg C) (by rw [← unhide hC]; exact build56m _ _ rfl _) ?_))
  go_ret
  refine ⟨w1.heap.size, rfl, (unhide HB).size, ?_, (unhide HB).alloc (unhide HB).size _⟩
  refine hash0_ok ?_
  rw [unhide hC]
  exact heap_alloc_last w1 _
end Go.Proofs.YtlkcjimkgebeiaaDoor
