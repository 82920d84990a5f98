/-
  An operation on numbers is done.
-/
import Derived.Test.YtncmegafkccblaaTr
namespace Go.Proofs.Ytncmegafkccblaa
open Go.RowKit
set_option linter.unusedVariables false
set_option linter.unusedSimpArgs false
/-- The boxes of reckon: the instruction, the answer. -/
structure Bi (w : World) (a1 a2 : Array Value) (W : World) : Prop where
  h1 : W.heap[w.heap.size]? = some (.cells a1 33)
  h2 : W.heap[w.heap.size + 1]? = some (.cells a2 38)
  b : Below w.heap.size w W
theorem Bi.go {w W W' : World} {a1 a2 : Array Value} (h : Bi w a1 a2 W) (k : Below W.heap.size W W') : Bi w a1 a2 W' :=
  ⟨(k.block _ (Array.getElem?_eq_some_iff.1 h.h1).1).trans h.h1, (k.block _ (Array.getElem?_eq_some_iff.1 h.h2).1).trans h.h2, bl_past h.b k⟩
theorem Bi.made (w : World) (a1 a2 : Array Value) : Bi w a1 a2 ((w.alloc (.cells a1 33)).alloc (.cells a2 38)) := by
  refine ⟨?_, ?_, bl_two w _ _⟩
  · rw [Below.heap_alloc _ _ _ (by simp only [World.size_alloc]; omega)]; exact heap_alloc_new w _
  · have := heap_alloc_new (w.alloc (.cells a1 33)) (.cells a2 38)
    simpa only [World.size_alloc] using this
theorem Bi.lt {w W : World} {a1 a2 : Array Value} (h : Bi w a1 a2 W) : w.heap.size + 1 < W.heap.size := (Array.getElem?_eq_some_iff.1 h.h2).1
/-- .. and the first number. -/
structure Br (w w1 : World) (a1 a2 a3 : Array Value) (W : World) : Prop where
  i : Bi w a1 a2 W
  l : w.heap.size + 1 < w1.heap.size
  h3 : W.heap[w1.heap.size]? = some (.cells a3 59)
theorem Br.go {w w1 W W' : World} {a1 a2 a3 : Array Value} (h : Br w w1 a1 a2 a3 W) (k : Below W.heap.size W W') : Br w w1 a1 a2 a3 W' :=
  ⟨h.i.go k, h.l, (k.block _ (Array.getElem?_eq_some_iff.1 h.h3).1).trans h.h3⟩
theorem Br.drew {w w1 W : World} {a1 a2 a3 : Array Value} (h : Br w w1 a1 a2 a3 W) : Br w w1 a1 a2 a3 W.drew := ⟨⟨h.i.h1, h.i.h2, h.i.b.drew⟩, h.l, h.h3⟩
theorem Br.made {w w1 : World} {a1 a2 : Array Value} (h : Bi w a1 a2 w1) (a3 : Array Value) : Br w w1 a1 a2 a3 (w1.alloc (.cells a3 59)) :=
  ⟨h.go (bl_one w1 _), h.lt, heap_alloc_new w1 _⟩
theorem Br.set {w w1 W : World} {a1 a2 a3 : Array Value} (h : Br w w1 a1 a2 a3 W) (i : Nat) (v : Value) : Br w w1 a1 (a2.setIfInBounds i v) a3 (W.setCell ⟨w.heap.size + 1, i, none⟩ v) := by
  refine ⟨⟨?_, ?_, h.i.b.setCell (by simp) v⟩, h.l, ?_⟩
  · rw [Below.heap_setCell _ _ _ _ (by simp)]; exact h.i.h1
  · rw [setCell_eq_setRow W _ i a2 38 (0, 0) v h.i.h2]; exact setRow_heap W _ a2 _ 38 _ h.i.h2
  · rw [Below.heap_setCell _ _ _ _ (by have := h.l; simp; omega)]; exact h.h3
theorem Br.cells {w w1 W : World} {p q r s : Value} {a2 : Array Value} (h : Br w w1 #[p, q] a2 #[r, s] W) : (W.cell? ⟨w.heap.size, 0, none⟩ = some p ∧ W.cell? ⟨w.heap.size, 1, none⟩ = some q) ∧ (W.cell? ⟨w1.heap.size, 0, none⟩ = some r ∧ W.cell? ⟨w1.heap.size, 1, none⟩ = some s) := by
  obtain ⟨c1, f1, z1⟩ := blk_cells h.i.h1
  obtain ⟨c2, f2, z2⟩ := blk_cells h.h3
  exact ⟨⟨c1 0, c1 1⟩, ⟨c2 0, c2 1⟩⟩
theorem Bi.ans {w W : World} {a1 : Array Value} {p q : Value} (h : Bi w a1 #[p, q] W) : (W.cell? ⟨w.heap.size + 1, 0, none⟩ = some p ∧ W.cell? ⟨w.heap.size + 1, 1, none⟩ = some q) ∧ (W.frozen? ⟨w.heap.size + 1, 0, none⟩ = false ∧ W.frozen? ⟨w.heap.size + 1, 1, none⟩ = false) ∧ w.heap.size + 1 < W.heap.size := by
  obtain ⟨c1, f1, z1⟩ := blk_cells h.h2
  exact ⟨⟨c1 0, c1 1⟩, ⟨f1 0, f1 1⟩, z1⟩
theorem Bi.ins {w W : World} {p q : Value} {a2 : Array Value} (h : Bi w #[p, q] a2 W) : W.cell? ⟨w.heap.size, 0, none⟩ = some p ∧ W.cell? ⟨w.heap.size, 1, none⟩ = some q := by
  obtain ⟨c1, f1, z1⟩ := blk_cells h.h1
  exact ⟨c1 0, c1 1⟩
theorem results_ct2 {fn : Func} {p q : Tmp} {ty : TypeId} (h : fn.results = #[.cell p ty, .tmp q]) (tmps : Array Value) (P : Program) (w : World) :
    (results fn tmps).run P w = ((asAddr (tmps.getD p undef)).run P w).andThen fun a w₁ => ((loadVar ty a).run P w₁).andThen fun v w₂ => .ok (.tuple #[v, tmps.getD q undef]) w₂ := by
  simp only [results, h]
  simp [Sem.run_bind, Result.andThen]
/-- A value and a number came back. -/
def VN (w : World) (e : Ending) (w' : World) : Prop := ∃ x y : Int, e = .returned (.tuple #[.agg #[.int .i64 x, .int .i64 y], .int .i64 0]) ∧ Below w.heap.size w w'
set_option maxRecDepth 100000 in
set_option maxHeartbeats 800000 in
theorem reckon1 {w : World} {g o c : Nat} {op k : Int} {f : FuncId} (eg : ∀ args w, (callFunc f args).run Try.prog w = .ok (.enter f args) w) (h : Ar w g o 1 k) (e24 : (op == 24) = false)
    (HT : ∀ W, Below w.heap.size w W → Calls Try.prog 24 #[.int .i64 op, .slice (some ⟨g, o, none⟩) 1 c] W fun e w' => e = .returned (.int .i64 0) ∧ Below W.heap.size W w')
    (HO : ∀ W, Calls Try.prog 26 #[.int .i64 op] W fun e w' => e = .returned (.func (.func f) #[] #[]) ∧ w' = W)
    (HF : ∀ W m, Calls Try.prog f #[.agg #[.int .i64 k, .int .i64 m]] W fun e w' => VA W e w') :
    Calls Try.prog 18 #[.agg #[.int .i64 op, .int .i64 0], .slice (some ⟨g, o, none⟩) 1 c] w fun e w' => VN w e w' := by
  have H := hide h
  have HT := hide HT
  have HO := hide HO
  have HF := hide HF
  clear h
  have H0 := hide (Bi.made w #[.int .i64 op, .int .i64 0] #[.int .i64 0, .int .i64 0])
  go_enter Try.func18, Try.ntmps18
  go_wp2_with fail
  refine (unhide HT _ (unhide H0).b).mono ?_
  rintro e w1 ⟨rfl, b1⟩
  have H1 := hide ((unhide H0).go b1)
  clear b1 H0 HT
  obtain ⟨m, c0, c1⟩ := ((unhide H).go (unhide H1).b) 0 (by omega)
  simp only [Nat.zero_mul, Nat.add_zero] at c0 c1
  obtain ⟨d0, d1⟩ := (unhide H1).ins
  have H2 := hide (Br.made (unhide H1) #[.int .i64 k, .int .i64 m])
  have L0 := (unhide H1).lt
  obtain ⟨⟨p0, p1⟩, -⟩ := (unhide H2).cells
  have L1 : w.heap.size < w1.heap.size := by omega
  go_wp2_with fail
  clear p0 p1 L1
  clear c0 c1 d0 d1 H1
  refine wp_region_held_drew (S := (fun W => ∃ a3, Br w w1 #[.int .i64 op, .int .i64 0] a3 #[.int .i64 k, .int .i64 m] W)) (by kernel_rfl) (⟨_, (unhide H2).drew⟩) (fun hHeld => ?_)
  clear hHeld
  refine wpAnyH_take (i := 0) (oi := _) (v := .pointer (some ⟨w.heap.size, 0, none⟩)) rfl (by kernel_rfl) (by kernel_rfl) (by kernel_rfl) (fun _ _ _ h => h) (Or.inl ⟨by rfl, (by intro w' hSw; obtain ⟨a3, hSw⟩ := hSw; obtain ⟨⟨p0, p1⟩, ⟨q0, q1⟩⟩ := hSw.cells; go_simp)⟩) ⟨_, (unhide H2).drew⟩ ?_
  go_simp
  refine wpAnyH_take (i := 1) (oi := _) (v := .int .i64 op) rfl (by kernel_rfl) (by kernel_rfl) (by kernel_rfl) (fun _ _ _ h => h) (Or.inl ⟨by rfl, (by intro w' hSw; obtain ⟨a3, hSw⟩ := hSw; obtain ⟨⟨p0, p1⟩, ⟨q0, q1⟩⟩ := hSw.cells; go_simp)⟩) ⟨_, (unhide H2).drew⟩ ?_
  go_simp
  refine wpAnyH_take (i := 3) (oi := _) (v := .agg #[.int .i64 k, .int .i64 m]) rfl (by kernel_rfl) (by kernel_rfl) (by kernel_rfl) (fun _ _ _ h => h) (Or.inl ⟨by rfl, (by intro w' hSw; obtain ⟨a3, hSw⟩ := hSw; obtain ⟨⟨p0, p1⟩, ⟨q0, q1⟩⟩ := hSw.cells; go_simp)⟩) ⟨_, (unhide H2).drew⟩ ?_
  go_simp
  have HD := hide (unhide H2).drew
  refine wpAnyH_ready (rs := [2]) (by kernel_rfl) (by simp) ?_
  refine AllReadyH.cons (o := _) rfl (fun K hK => ?_) AllReadyH.nil
  go_simp
  refine (unhide HO _).mono ?_
  rintro e w2 ⟨rfl, rfl⟩
  refine hK.out _ _ (⟨_, unhide HD⟩) (fun _ => ?_)
  clear hK K
  go_simp
  refine wpAnyH_ready (rs := [4]) (by kernel_rfl) (by simp) ?_
  refine AllReadyH.cons (o := _) rfl (fun K hK => ?_) AllReadyH.nil
  go_simp
  try simp only [eg]
  try go_simp
  refine (unhide HF _ m).mono ?_
  rintro e w3 ⟨x, y, rfl, hb⟩
  have H3 := hide ((unhide HD).go hb)
  clear hb
  refine hK.out _ _ (⟨_, unhide H3⟩) (fun _ => ?_)
  clear hK K
  go_simp
  obtain ⟨⟨r0, r1⟩, ⟨g0, g1⟩, z⟩ := (unhide H3).i.ans
  have HB := hide (unhide H3).i.b
  have H4 := hide (((unhide H3).set 0 (.int .i64 x)).set 1 (.int .i64 y))
  refine wpAnyH_ready (rs := [5]) (by kernel_rfl) (by simp) ?_
  refine AllReadyH.cons (o := _) rfl (fun K hK => ?_) AllReadyH.nil
  go_simp
  refine hK.out _ _ (⟨_, unhide H4⟩) (fun _ => ?_)
  clear hK K
  go_simp
  refine wpAnyH_ready (rs := [6]) (by kernel_rfl) (by simp) ?_
  refine AllReadyH.cons (o := _) rfl (fun K hK => ?_) AllReadyH.nil
  go_simp
  refine hK.out _ _ (⟨_, unhide H4⟩) (fun _ => ?_)
  clear hK K
  go_simp
  refine wpAnyH_done (by kernel_rfl) ?_ _
  go_wp2_with fail
  refine bodyPost_ret (v := .tuple #[.agg #[.int .i64 x, .int .i64 y], .int .i64 0]) ?_ rfl ?_
  · rw [results_ct2 rfl]
    go_simp
  · refine ⟨_, _, rfl, ?_⟩
    repeat (first | refine Below.setCell ?_ (by first | (simp; done) | (simp; omega)) _ | (with_reducible exact unhide HB))
set_option maxRecDepth 100000 in
set_option maxHeartbeats 800000 in
theorem reckon2 {w : World} {g o c : Nat} {op k : Int} {f : FuncId} (eg : ∀ args w, (callFunc f args).run Try.prog w = .ok (.enter f args) w) (h : Ar w g o 2 k) (e24 : (op == 24) = false)
    (HT : ∀ W, Below w.heap.size w W → Calls Try.prog 24 #[.int .i64 op, .slice (some ⟨g, o, none⟩) 2 c] W fun e w' => e = .returned (.int .i64 0) ∧ Below W.heap.size W w')
    (HO : ∀ W, Calls Try.prog 27 #[.int .i64 op] W fun e w' => e = .returned (.func (.func f) #[] #[]) ∧ w' = W)
    (HF : ∀ W m m2, Calls Try.prog f #[.agg #[.int .i64 k, .int .i64 m], .agg #[.int .i64 k, .int .i64 m2]] W fun e w' => VA W e w') :
    Calls Try.prog 18 #[.agg #[.int .i64 op, .int .i64 0], .slice (some ⟨g, o, none⟩) 2 c] w fun e w' => VN w e w' := by
  have H := hide h
  have HT := hide HT
  have HO := hide HO
  have HF := hide HF
  clear h
  have H0 := hide (Bi.made w #[.int .i64 op, .int .i64 0] #[.int .i64 0, .int .i64 0])
  go_enter Try.func18, Try.ntmps18
  go_wp2_with fail
  refine (unhide HT _ (unhide H0).b).mono ?_
  rintro e w1 ⟨rfl, b1⟩
  have H1 := hide ((unhide H0).go b1)
  clear b1 H0 HT
  obtain ⟨m, c0, c1⟩ := ((unhide H).go (unhide H1).b) 0 (by omega)
  simp only [Nat.zero_mul, Nat.add_zero] at c0 c1
  obtain ⟨d0, d1⟩ := (unhide H1).ins
  have H2 := hide (Br.made (unhide H1) #[.int .i64 k, .int .i64 m])
  have L0 := (unhide H1).lt
  obtain ⟨⟨p0, p1⟩, -⟩ := (unhide H2).cells
  have L1 : w.heap.size < w1.heap.size := by omega
  go_wp2_with fail
  clear p0 p1 L1
  clear c0 c1 d0 d1 H1
  obtain ⟨m2, HM⟩ : ∃ m2, Hid (∀ W, Below w.heap.size w W → W.cell? ⟨g, o + 2, none⟩ = some (.int .i64 k) ∧ W.cell? ⟨g, o + 2 + 1, none⟩ = some (.int .i64 m2)) := by
    obtain ⟨m2, a0, a1⟩ := (unhide H) 1 (by omega)
    simp only [Nat.one_mul] at a0 a1
    exact ⟨m2, fun W hW => ⟨(hW.cell (World.block_lt_of_cell? _ _ a0)).trans a0, (hW.cell (World.block_lt_of_cell? _ _ a1)).trans a1⟩⟩
  refine wp_region_held_drew (S := (fun W => ∃ a3, Br w w1 #[.int .i64 op, .int .i64 0] a3 #[.int .i64 k, .int .i64 m] W)) (by kernel_rfl) (⟨_, (unhide H2).drew⟩) (fun hHeld => ?_)
  clear hHeld
  refine wpAnyH_take (i := 0) (oi := _) (v := .pointer (some ⟨w.heap.size, 0, none⟩)) rfl (by kernel_rfl) (by kernel_rfl) (by kernel_rfl) (fun _ _ _ h => h) (Or.inl ⟨by rfl, (by intro w' hSw; obtain ⟨a3, hSw⟩ := hSw; obtain ⟨⟨p0, p1⟩, ⟨q0, q1⟩⟩ := hSw.cells; go_simp)⟩) ⟨_, (unhide H2).drew⟩ ?_
  go_simp
  refine wpAnyH_take (i := 1) (oi := _) (v := .int .i64 op) rfl (by kernel_rfl) (by kernel_rfl) (by kernel_rfl) (fun _ _ _ h => h) (Or.inl ⟨by rfl, (by intro w' hSw; obtain ⟨a3, hSw⟩ := hSw; obtain ⟨⟨p0, p1⟩, ⟨q0, q1⟩⟩ := hSw.cells; go_simp)⟩) ⟨_, (unhide H2).drew⟩ ?_
  go_simp
  refine wpAnyH_take (i := 3) (oi := _) (v := .agg #[.int .i64 k, .int .i64 m]) rfl (by kernel_rfl) (by kernel_rfl) (by kernel_rfl) (fun _ _ _ h => h) (Or.inl ⟨by rfl, (by intro w' hSw; obtain ⟨a3, hSw⟩ := hSw; obtain ⟨⟨p0, p1⟩, ⟨q0, q1⟩⟩ := hSw.cells; go_simp)⟩) ⟨_, (unhide H2).drew⟩ ?_
  go_simp
  refine wpAnyH_take (i := 4) (oi := _) (v := .slice (some ⟨g, o, none⟩) 2 c) rfl (by kernel_rfl) (by kernel_rfl) (by kernel_rfl) (fun _ _ _ h => h) (Or.inl ⟨by rfl, (by intro w' hSw; obtain ⟨a3, hSw⟩ := hSw; obtain ⟨⟨p0, p1⟩, ⟨q0, q1⟩⟩ := hSw.cells; go_simp)⟩) ⟨_, (unhide H2).drew⟩ ?_
  go_simp
  refine wpAnyH_take (i := 5) (oi := _) (v := .pointer (some ⟨g, o + 2, none⟩)) rfl (by kernel_rfl) (by kernel_rfl) (by kernel_rfl) (fun _ _ _ h => h) (Or.inl ⟨by rfl, (by intro w' hSw; obtain ⟨a3, hSw⟩ := hSw; obtain ⟨⟨p0, p1⟩, ⟨q0, q1⟩⟩ := hSw.cells; go_simp)⟩) ⟨_, (unhide H2).drew⟩ ?_
  go_simp
  refine wpAnyH_take (i := 6) (oi := _) (v := .agg #[.int .i64 k, .int .i64 m2]) rfl (by kernel_rfl) (by kernel_rfl) (by kernel_rfl) (fun _ _ _ h => h) (Or.inl ⟨by rfl, (by intro w' hSw; obtain ⟨a3, hSw⟩ := hSw; obtain ⟨⟨p0, p1⟩, ⟨q0, q1⟩⟩ := hSw.cells; obtain ⟨c2, c3⟩ := unhide HM _ hSw.i.b; go_simp)⟩) ⟨_, (unhide H2).drew⟩ ?_
  go_simp
  have HD := hide (unhide H2).drew
  refine wpAnyH_ready (rs := [2]) (by kernel_rfl) (by simp) ?_
  refine AllReadyH.cons (o := _) rfl (fun K hK => ?_) AllReadyH.nil
  go_simp
  refine (unhide HO _).mono ?_
  rintro e w2 ⟨rfl, rfl⟩
  refine hK.out _ _ (⟨_, unhide HD⟩) (fun _ => ?_)
  clear hK K
  go_simp
  refine wpAnyH_ready (rs := [7]) (by kernel_rfl) (by simp) ?_
  refine AllReadyH.cons (o := _) rfl (fun K hK => ?_) AllReadyH.nil
  go_simp
  try simp only [eg]
  try go_simp
  refine (unhide HF _ m m2).mono ?_
  rintro e w3 ⟨x, y, rfl, hb⟩
  have H3 := hide ((unhide HD).go hb)
  clear hb
  refine hK.out _ _ (⟨_, unhide H3⟩) (fun _ => ?_)
  clear hK K
  go_simp
  obtain ⟨⟨r0, r1⟩, ⟨g0, g1⟩, z⟩ := (unhide H3).i.ans
  have HB := hide (unhide H3).i.b
  have H4 := hide (((unhide H3).set 0 (.int .i64 x)).set 1 (.int .i64 y))
  refine wpAnyH_ready (rs := [8]) (by kernel_rfl) (by simp) ?_
  refine AllReadyH.cons (o := _) rfl (fun K hK => ?_) AllReadyH.nil
  go_simp
  refine hK.out _ _ (⟨_, unhide H4⟩) (fun _ => ?_)
  clear hK K
  go_simp
  refine wpAnyH_ready (rs := [9]) (by kernel_rfl) (by simp) ?_
  refine AllReadyH.cons (o := _) rfl (fun K hK => ?_) AllReadyH.nil
  go_simp
  refine hK.out _ _ (⟨_, unhide H4⟩) (fun _ => ?_)
  clear hK K
  go_simp
  refine wpAnyH_done (by kernel_rfl) ?_ _
  go_wp2_with fail
  refine bodyPost_ret (v := .tuple #[.agg #[.int .i64 x, .int .i64 y], .int .i64 0]) ?_ rfl ?_
  · rw [results_ct2 rfl]
    go_simp
  · refine ⟨_, _, rfl, ?_⟩
    repeat (first | refine Below.setCell ?_ (by first | (simp; done) | (simp; omega)) _ | (with_reducible exact unhide HB))
end Go.Proofs.Ytncmegafkccblaa
