/-
  What a spot has seen.
-/
import Derived.Test.YtncmegafkccblaaRp
namespace Go.Proofs.Ytncmegafkccblaa
open Go.RowKit
set_option linter.unusedVariables false
set_option linter.unusedSimpArgs false
/-- The box of a spot. -/
structure Bs (w : World) (a : Array Value) (W : World) : Prop where
  h : W.heap[w.heap.size]? = some (.cells a 24)
  b : Below w.heap.size w W
theorem Bs.go {w W W' : World} {a : Array Value} (h : Bs w a W) (k : Below W.heap.size W W') : Bs w a W' :=
  ⟨(k.block _ (Array.getElem?_eq_some_iff.1 h.h).1).trans h.h, bl_past h.b k⟩
theorem Bs.drew {w W : World} {a : Array Value} (h : Bs w a W) : Bs w a W.drew := ⟨h.h, h.b.drew⟩
theorem Bs.set {w W Wa : World} {a : Array Value} (h : Bs w a W) (ha : Bs w a Wa) (i : Nat) (v : Value) : Bs w a (W.setCell ⟨Wa.heap.size, i, none⟩ v) := by
  have hl : w.heap.size < Wa.heap.size := (Array.getElem?_eq_some_iff.1 ha.h).1
  exact ⟨by rw [Below.heap_setCell _ _ _ _ (by simp; omega)]; exact h.h, h.b.setCell (by simp; omega) v⟩
theorem Bs.lt {w W : World} {a : Array Value} (h : Bs w a W) : w.heap.size < W.heap.size := (Array.getElem?_eq_some_iff.1 h.h).1
theorem Bs.cells {w W : World} {p q r s : Value} (h : Bs w #[p, q, r, s] W) : W.cell? ⟨w.heap.size, 0, none⟩ = some p ∧ W.cell? ⟨w.heap.size, 1, none⟩ = some q ∧ W.cell? ⟨w.heap.size, 2, none⟩ = some r ∧ W.cell? ⟨w.heap.size, 3, none⟩ = some s := by
  obtain ⟨c, -, -⟩ := blk_cells h.h
  exact ⟨c 0, c 1, c 2, c 3⟩
theorem Bs.made (w : World) (a : Array Value) (o : Obj) : Bs w a ((w.alloc (.cells a 24)).alloc o) := by
  refine ⟨?_, bl_two w _ _⟩
  rw [Below.heap_alloc _ _ _ (by simp only [World.size_alloc]; omega)]; exact heap_alloc_new w _
set_option maxRecDepth 100000 in
set_option maxHeartbeats 800000 in
theorem takes_any (w : World) (op : Int) : Calls Try.prog 11 #[.int .i64 op] w fun e w' => e = .returned (.tuple #[.int .i64 (tkI op 0), .bool (okB op 0)]) ∧ Below w.heap.size w w' := by
  have HE := hide (effect_any w op 0)
  generalize tkI op 0 = t at HE ⊢
  generalize okB op 0 = b at HE ⊢
  go_enter Try.func11, Try.ntmps11
  go_wp2_with fail
  refine (unhide HE).mono ?_
  rintro e w1 ⟨rfl, hb⟩
  have HB := hide hb
  clear hb HE
  go_wp2_with fail
  go_ret2
  exact ⟨rfl, unhide HB⟩
set_option maxRecDepth 100000 in
set_option maxHeartbeats 8000000 in
theorem kind2 (w : World) : Calls Try.prog 110 #[.agg #[]] w fun e w' => e = .returned (.int .i64 2) ∧ Below w.heap.size w w' := by
  have HB := hide (bl_one w)
  go_enter Try.func110, Try.ntmps110
  go_wp2_with fail
  go_ret
  exact ⟨rfl, unhide HB _⟩
set_option maxRecDepth 100000 in
set_option maxHeartbeats 8000000 in
theorem kind3 (w : World) : Calls Try.prog 111 #[.agg #[]] w fun e w' => e = .returned (.int .i64 3) ∧ Below w.heap.size w w' := by
  have HB := hide (bl_one w)
  go_enter Try.func111, Try.ntmps111
  go_wp2_with fail
  go_ret
  exact ⟨rfl, unhide HB _⟩
theorem tkI_le (op : Int) : 0 ≤ tkI op 0 ∧ tkI op 0 ≤ 3 := by
  unfold tkI
  split
  · rename_i h
    have hop : isOp op = true := by simp [okB] at h; exact h.1
    have h : 0 ≤ op ∧ op < 67 := by simpa [isOp] using hop
    have := (SH_take op.toNat (by omega)).1
    split <;> omega
  · omega
theorem repeat_all {w : World} {xb xo xc : Nat} {q : Int} (N : Nat) (hN : N ≤ 3) (hx : w.cell? ⟨xb, xo, none⟩ = some (.int .i64 q)) (hy : w.cell? ⟨xb, xo + 1, none⟩ = some (.int .i64 0)) :
    Calls Try.prog 13 #[.slice (some ⟨xb, xo, none⟩) 1 xc, .int .i64 (N : Int)] w fun e w' => ∃ g, e = .returned (.slice (some ⟨g, 0, none⟩) N N) ∧ Ar w' g 0 N q ∧ Below w.heap.size w w' := by
  by_cases h : N = 0
  · subst h
    exact (repeat_zero hx hy).mono (by rintro e w' ⟨g, rfl, hR⟩; have hA := hR.ar; obtain ⟨_, _, _, _, hB, _⟩ := hR; exact ⟨g, rfl, hA, hB⟩)
  · exact (repeat_any N (by omega) (by omega) hx hy).mono (by rintro e w' ⟨g, rfl, hR⟩; have hA := hR.ar; obtain ⟨_, _, _, _, hB, _⟩ := hR; exact ⟨g, rfl, hA, hB⟩)
theorem whole2_any {w : World} {op : Int} {g c n : Nat} (ht : tkI op 0 = (n : Int)) (ha : Ar w g 0 n 2) : Calls Try.prog 12 #[.int .i64 op, .int .i64 2, .slice (some ⟨g, 0, none⟩) n c] w fun e w' => VB w (decide (op ∈ W2)) e w' := by
  cases h : decide (op ∈ W2)
  · exact whole2_no w op _ h
  · have hm : op ∈ W2 := by simpa using h
    have hn := tkI_le op
    have hc : (op = 17 ∨ op = 21) ∧ n = 1 ∨ (op = 12 ∨ op = 13 ∨ op = 14 ∨ op = 18 ∨ op = 19 ∨ op = 20 ∨ op = 66 ∨ op = 27 ∨ op = 28) ∧ n = 2 := by
      simp only [W2, List.mem_cons, List.not_mem_nil, or_false] at hm
      rcases hm with rfl | rfl | rfl | rfl | rfl | rfl | rfl | rfl | rfl | rfl | rfl
      · have e : tkI 12 0 = 2 := by decide
        exact .inr ⟨by decide, by omega⟩
      · have e : tkI 13 0 = 2 := by decide
        exact .inr ⟨by decide, by omega⟩
      · have e : tkI 14 0 = 2 := by decide
        exact .inr ⟨by decide, by omega⟩
      · have e : tkI 18 0 = 2 := by decide
        exact .inr ⟨by decide, by omega⟩
      · have e : tkI 19 0 = 2 := by decide
        exact .inr ⟨by decide, by omega⟩
      · have e : tkI 20 0 = 2 := by decide
        exact .inr ⟨by decide, by omega⟩
      · have e : tkI 66 0 = 2 := by decide
        exact .inr ⟨by decide, by omega⟩
      · have e : tkI 27 0 = 2 := by decide
        exact .inr ⟨by decide, by omega⟩
      · have e : tkI 28 0 = 2 := by decide
        exact .inr ⟨by decide, by omega⟩
      · have e : tkI 17 0 = 1 := by decide
        exact .inl ⟨by decide, by omega⟩
      · have e : tkI 21 0 = 1 := by decide
        exact .inl ⟨by decide, by omega⟩
    rcases hc with ⟨hop, rfl⟩ | ⟨hop, rfl⟩
    · exact whole2_yes h (by omega) ht ha (fun W hW => rk_2_1 hop (ha.go hW))
    · exact whole2_yes h (by omega) ht ha (fun W hW => rk_2_2 hop (ha.go hW))
theorem whole3_any {w : World} {op : Int} {g c n : Nat} (ht : tkI op 0 = (n : Int)) (ha : Ar w g 0 n 3) : Calls Try.prog 12 #[.int .i64 op, .int .i64 3, .slice (some ⟨g, 0, none⟩) n c] w fun e w' => VB w (decide (op ∈ W3)) e w' := by
  cases h : decide (op ∈ W3)
  · exact whole3_no w op _ h
  · have hm : op ∈ W3 := by simpa using h
    have hn := tkI_le op
    have hc : (op = 17 ∨ op = 37 ∨ op = 36 ∨ op = 33) ∧ n = 1 ∨ (op = 12 ∨ op = 13 ∨ op = 14 ∨ op = 15 ∨ op = 27 ∨ op = 28) ∧ n = 2 := by
      simp only [W3, List.mem_cons, List.not_mem_nil, or_false] at hm
      rcases hm with rfl | rfl | rfl | rfl | rfl | rfl | rfl | rfl | rfl | rfl
      · have e : tkI 12 0 = 2 := by decide
        exact .inr ⟨by decide, by omega⟩
      · have e : tkI 13 0 = 2 := by decide
        exact .inr ⟨by decide, by omega⟩
      · have e : tkI 14 0 = 2 := by decide
        exact .inr ⟨by decide, by omega⟩
      · have e : tkI 15 0 = 2 := by decide
        exact .inr ⟨by decide, by omega⟩
      · have e : tkI 27 0 = 2 := by decide
        exact .inr ⟨by decide, by omega⟩
      · have e : tkI 28 0 = 2 := by decide
        exact .inr ⟨by decide, by omega⟩
      · have e : tkI 17 0 = 1 := by decide
        exact .inl ⟨by decide, by omega⟩
      · have e : tkI 37 0 = 1 := by decide
        exact .inl ⟨by decide, by omega⟩
      · have e : tkI 36 0 = 1 := by decide
        exact .inl ⟨by decide, by omega⟩
      · have e : tkI 33 0 = 1 := by decide
        exact .inl ⟨by decide, by omega⟩
    rcases hc with ⟨hop, rfl⟩ | ⟨hop, rfl⟩
    · exact whole3_yes h (by omega) ht ha (fun W hW => rk_3_1 hop (ha.go hW))
    · exact whole3_yes h (by omega) ht ha (fun W hW => rk_3_2 hop (ha.go hW))
end Go.Proofs.Ytncmegafkccblaa
