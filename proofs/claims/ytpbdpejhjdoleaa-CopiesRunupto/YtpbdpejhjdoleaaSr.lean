/-
  What an operand is known as; what an instruction moves; a register as an operand.
-/
import Derived.Test.YtpbdpejhjdoleaaPri
namespace Go.Proofs.Ytpbdpejhjdoleaa
open Go.RowKit
set_option linter.unusedVariables false
set_option linter.unusedSimpArgs false
theorem box1n (w : World) (o : Obj) : Below w.heap.size w (w.alloc o) := (Below.refl _ w).alloc (Nat.le_refl _) _
/-- Boxes, each as it was made. -/
structure BX (w : World) (cs : List (Nat × Array Value × TypeId)) (W : World) : Prop where
  h : ∀ (i : Nat) (e : Nat × Array Value × TypeId), cs[i]? = some e → W.heap[e.1]? = some (.cells e.2.1 e.2.2)
  b : Below w.heap.size w W
section
variable {w W W' : World} {cs : List (Nat × Array Value × TypeId)}
theorem BX.nil (w : World) : BX w [] w := ⟨fun i e he => by simp at he, Below.refl _ w⟩
theorem BX.go (h : BX w cs W) (k : Below W.heap.size W W') : BX w cs W' := ⟨fun i e he => (k.block _ (Array.getElem?_eq_some_iff.1 (h.h i e he)).1).trans (h.h i e he), bl_past h.b k⟩
theorem BX.add (h : BX w cs W) (a : Array Value) (t : TypeId) : BX w (cs ++ [(W.heap.size, a, t)]) (W.alloc (.cells a t)) := by
  have g := h.go (box1n W (.cells a t))
  refine ⟨fun i e he => ?_, g.b⟩
  by_cases q : i < cs.length
  · exact g.h i e (by rw [List.getElem?_append_left q] at he; exact he)
  · rw [List.getElem?_append_right (by omega)] at he
    have : i - cs.length = 0 := by
      have := (List.getElem?_eq_some_iff.1 he).1
      simp at this; omega
    rw [this] at he
    cases he
    exact heap_alloc_new W _
theorem BX.fr {Z : Nat → Prop} (h : BX w cs W) (k : Fr Z W W') (hz : ∀ (i : Nat) (e : Nat × Array Value × TypeId), cs[i]? = some e → ¬ Z e.1) (hw : ∀ b, b < w.heap.size → ¬ Z b) : BX w cs W' :=
  ⟨fun i e he => (k.block _ (Array.getElem?_eq_some_iff.1 (h.h i e he)).1 (hz i e he)).trans (h.h i e he), h.b.trans (k.below h.b.size hw)⟩
theorem BX.lt (h : BX w cs W) {i : Nat} {e : Nat × Array Value × TypeId} (he : cs[i]? = some e) : e.1 < W.heap.size := (Array.getElem?_eq_some_iff.1 (h.h i e he)).1
theorem BX.ce (h : BX w cs W) (i : Nat) {e : Nat × Array Value × TypeId} (he : cs[i]? = some e) (j : Nat) : W.cell? ⟨e.1, j, none⟩ = e.2.1[j]? := (blk_cells (h.h i e he)).1 j
end
theorem BX.two (w : World) (a0 a1 : Array Value) (t0 t1 : TypeId) : BX w [(w.heap.size, a0, t0), (w.heap.size + 1, a1, t1)] ((w.alloc (.cells a0 t0)).alloc (.cells a1 t1)) := by
  have h := ((BX.nil w).add a0 t0).add a1 t1
  simpa only [World.size_alloc, List.nil_append, List.cons_append] using h
theorem BX.three (w : World) (a0 a1 a2 : Array Value) (t0 t1 t2 : TypeId) : BX w [(w.heap.size, a0, t0), (w.heap.size + 1, a1, t1), (w.heap.size + 1 + 1, a2, t2)] (((w.alloc (.cells a0 t0)).alloc (.cells a1 t1)).alloc (.cells a2 t2)) := by
  have h := (((BX.nil w).add a0 t0).add a1 t1).add a2 t2
  simpa only [World.size_alloc, List.nil_append, List.cons_append] using h
theorem fld78 (a : Int) (m : Bool) (k n : Int) (W : World) : (Instr.field 78 (.agg #[.int .i64 a, .bool m, .int .i64 k, .int .i64 n]) 0).run Try.prog W = .ok (.int .i64 a) W := by kernel_rfl
set_option maxRecDepth 100000 in
set_option maxHeartbeats 1600000 in
theorem source_any {w : World} {b n : Nat} {f : Op → Wr} {o : Op} (h : MfW w b n f) (ho : OkO o) (hf : OkF f) :
    Calls Try.prog 50 #[.map (some b), opV o] w fun e w' => e = .returned (opV (srcF f o)) ∧ Below w.heap.size w w' := by
  obtain ⟨x, hx⟩ : ∃ x, Hid (f o = x) := ⟨_, hide rfl⟩
  have ho2 : OkO x.o := by rw [← unhide hx]; exact hf o
  obtain ⟨y, hy⟩ : ∃ y, Hid (f x.o = y) := ⟨_, hide rfl⟩
  obtain ⟨r, hr⟩ : ∃ r, Hid (srcF f o = r) := ⟨_, hide rfl⟩
  have hr2 := unhide hr
  unfold srcF at hr2
  rw [unhide hx, unhide hy] at hr2
  have HL1 : Hid (∀ W, Below w.heap.size w W → (Instr.lookup 60 (.map (some b)) (opV o) false).run Try.prog W = .ok (wrV x) W) := fun W hW => by
    rw [← unhide hx]
    exact (h.fr (Fr.of_below (S := fun _ => False) hW) (fun q => q)).look o ho
  have HL2 : Hid (∀ W, Below w.heap.size w W → (Instr.lookup 60 (.map (some b)) (opV x.o) false).run Try.prog W = .ok (wrV y) W) := fun W hW => by
    rw [← unhide hy]
    exact (h.fr (Fr.of_below (S := fun _ => False) hW) (fun q => q)).look x.o ho2
  rw [unhide hr]
  obtain ⟨k, nn⟩ := o
  obtain ⟨a, m, ⟨fk, fn⟩⟩ := x
  obtain ⟨a2, m2, ⟨fk2, fn2⟩⟩ := y
  obtain ⟨rk, rn⟩ := r
  unfold opV wrV at HL1 HL2
  unfold opV
  dsimp only at HL1 HL2 hr2 ⊢
  have B2 := BX.two w #[.int .i64 k, .int .i64 nn] #[.int .i64 0, .int .i64 0] 52 52
  have B3 := BX.three w #[.int .i64 k, .int .i64 nn] #[.int .i64 0, .int .i64 0] #[.int .i64 a, .bool m, .int .i64 fk, .int .i64 fn] 52 52 78
  have l1 := unhide HL1 _ B2.b
  obtain ⟨W3, hW3⟩ : ∃ W, Hid (((w.alloc (.cells #[.int .i64 k, .int .i64 nn] 52)).alloc (.cells #[.int .i64 0, .int .i64 0] 52)).alloc (.cells #[.int .i64 a, .bool m, .int .i64 fk, .int .i64 fn] 78) = W) := ⟨_, hide rfl⟩
  rw [unhide hW3] at B3
  have HB3 := hide B3
  have l2 : ∀ nq, (Instr.lookup 60 (.map (some b)) (.agg #[.int .i64 fk, .int .i64 fn]) false).run Try.prog (W3.drewN nq) = .ok (.agg #[.int .i64 a2, .bool m2, .int .i64 fk2, .int .i64 fn2]) (W3.drewN nq) := fun nq => unhide HL2 _ (bl_past B3.b (bl_drewN W3 nq))
  have c0 := B3.ce 2 rfl 0
  have c1 := B3.ce 2 rfl 1
  have c2 := B3.ce 2 rfl 2
  have c3 := B3.ce 2 rfl 3
  have d0 := B3.ce 0 rfl 0
  have d1 := B3.ce 0 rfl 1
  simp at c0 c1 c2 c3 d0 d1
  have lb2 := B3.lt (i := 2) rfl
  have lb0 := B3.lt (i := 0) rfl
  simp at lb2 lb0
  have fl := fun W => fld78 a2 m2 fk2 fn2 W
  clear B2 B3 h ho hf ho2 hx hy HL1 HL2
  by_cases hm : m = false
  · subst hm
    rw [if_pos rfl] at hr2
    cases hr2
    go_enter Try.func50, Try.ntmps50
    go_wp2_with fail
    rw [unhide hW3]
    go_quiet (fail)
    obtain ⟨Y, hY⟩ : ∃ Y, Hid (W3.drewN nq = Y) := ⟨_, hide rfl⟩
    have HY := hide ((unhide HB3).go (show Below W3.heap.size W3 Y by rw [← unhide hY]; exact bl_drewN W3 nq))
    have y0 := (unhide HY).ce 0 rfl 0
    have y1 := (unhide HY).ce 0 rfl 1
    have z0 := (unhide HY).ce 1 rfl 0
    have z1 := (unhide HY).ce 1 rfl 1
    have u0 := (unhide HY).ce 2 rfl 0
    have u1 := (unhide HY).ce 2 rfl 1
    have u2 := (unhide HY).ce 2 rfl 2
    have u3 := (unhide HY).ce 2 rfl 3
    have fz0 : Y.frozen? ⟨w.heap.size + 1, 0, none⟩ = false := (blk_cells ((unhide HY).h 1 _ rfl)).2.1 0
    have fz1 : Y.frozen? ⟨w.heap.size + 1, 1, none⟩ = false := (blk_cells ((unhide HY).h 1 _ rfl)).2.1 1
    simp at y0 y1 z0 z1 u0 u1 u2 u3
    rw [unhide hY]
    clear hY fl l1 l2 c0 c1 c2 c3 d0 d1
    go_wp2_with fail
    refine bodyPost_ret (v := .agg #[.int .i64 k, .int .i64 nn]) ?_ rfl ?_
    · rw [results_cell_one rfl]
      go_simp
    · refine ⟨by simp, ?_⟩
      repeat (first | refine Below.setCell ?_ (by simp) _ | with_reducible exact (unhide HY).b)
  · obtain rfl : m = true := by simpa using hm
    rw [if_neg (by simp)] at hr2
    clear hm
    by_cases hlt : a < a2
    · rw [if_pos hlt] at hr2
      have dl : decide (a < a2) = true := by simp [hlt]
      clear hlt
      cases hr2
      go_enter Try.func50, Try.ntmps50
      go_wp2_with fail
      rw [unhide hW3]
      go_quiet (fail)
      obtain ⟨Y, hY⟩ : ∃ Y, Hid (W3.drewN nq = Y) := ⟨_, hide rfl⟩
      have HY := hide ((unhide HB3).go (show Below W3.heap.size W3 Y by rw [← unhide hY]; exact bl_drewN W3 nq))
      have y0 := (unhide HY).ce 0 rfl 0
      have y1 := (unhide HY).ce 0 rfl 1
      have z0 := (unhide HY).ce 1 rfl 0
      have z1 := (unhide HY).ce 1 rfl 1
      have u0 := (unhide HY).ce 2 rfl 0
      have u1 := (unhide HY).ce 2 rfl 1
      have u2 := (unhide HY).ce 2 rfl 2
      have u3 := (unhide HY).ce 2 rfl 3
      have fz0 : Y.frozen? ⟨w.heap.size + 1, 0, none⟩ = false := (blk_cells ((unhide HY).h 1 _ rfl)).2.1 0
      have fz1 : Y.frozen? ⟨w.heap.size + 1, 1, none⟩ = false := (blk_cells ((unhide HY).h 1 _ rfl)).2.1 1
      simp at y0 y1 z0 z1 u0 u1 u2 u3
      rw [unhide hY]
      clear hY fl l1 l2 c0 c1 c2 c3 d0 d1
      go_wp2_with fail
      refine bodyPost_ret (v := .agg #[.int .i64 k, .int .i64 nn]) ?_ rfl ?_
      · rw [results_cell_one rfl]
        go_simp
      · refine ⟨by simp, ?_⟩
        repeat (first | refine Below.setCell ?_ (by simp) _ | with_reducible exact (unhide HY).b)
    · rw [if_neg hlt] at hr2
      have dl : decide (a < a2) = false := by simp; omega
      clear hlt
      cases hr2
      go_enter Try.func50, Try.ntmps50
      go_wp2_with fail
      rw [unhide hW3]
      go_quiet (fail)
      obtain ⟨Y, hY⟩ : ∃ Y, Hid (W3.drewN nq = Y) := ⟨_, hide rfl⟩
      have HY := hide ((unhide HB3).go (show Below W3.heap.size W3 Y by rw [← unhide hY]; exact bl_drewN W3 nq))
      have y0 := (unhide HY).ce 0 rfl 0
      have y1 := (unhide HY).ce 0 rfl 1
      have z0 := (unhide HY).ce 1 rfl 0
      have z1 := (unhide HY).ce 1 rfl 1
      have u0 := (unhide HY).ce 2 rfl 0
      have u1 := (unhide HY).ce 2 rfl 1
      have u2 := (unhide HY).ce 2 rfl 2
      have u3 := (unhide HY).ce 2 rfl 3
      have fz0 : Y.frozen? ⟨w.heap.size + 1, 0, none⟩ = false := (blk_cells ((unhide HY).h 1 _ rfl)).2.1 0
      have fz1 : Y.frozen? ⟨w.heap.size + 1, 1, none⟩ = false := (blk_cells ((unhide HY).h 1 _ rfl)).2.1 1
      simp at y0 y1 z0 z1 u0 u1 u2 u3
      rw [unhide hY]
      clear hY fl l1 l2 c0 c1 c2 c3 d0 d1
      go_wp2_with fail
      refine bodyPost_ret (v := .agg #[.int .i64 fk, .int .i64 fn]) ?_ rfl ?_
      · rw [results_cell_one rfl]
        go_simp
      · refine ⟨by simp, ?_⟩
        repeat (first | refine Below.setCell ?_ (by simp) _ | with_reducible exact (unhide HY).b)
end Go.Proofs.Ytpbdpejhjdoleaa
