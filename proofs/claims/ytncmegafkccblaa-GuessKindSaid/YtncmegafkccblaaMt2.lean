/-
  Numbers: less, equal, lt, le.
-/
import Derived.Test.YtncmegafkccblaaMt1
namespace Go.Proofs.Ytncmegafkccblaa
open Go.RowKit
set_option linter.unusedVariables false
set_option linter.unusedSimpArgs false
/-- Two boxes. -/
structure Bz (w : World) (a1 a2 : Array Value) (W : World) : Prop where
  h1 : W.heap[w.heap.size]? = some (.cells a1 59)
  h2 : W.heap[w.heap.size + 1]? = some (.cells a2 59)
  b : Below w.heap.size w W
theorem Bz.go {w W W' : World} {a1 a2 : Array Value} (h : Bz w a1 a2 W) (k : Below W.heap.size W W') : Bz w a1 a2 W' :=
  ⟨(k.block _ (Array.getElem?_eq_some_iff.1 h.h1).1).trans h.h1, (k.block _ (Array.getElem?_eq_some_iff.1 h.h2).1).trans h.h2, bl_past h.b k⟩
theorem Bz.drew {w W : World} {a1 a2 : Array Value} (h : Bz w a1 a2 W) : Bz w a1 a2 W.drew := ⟨h.h1, h.h2, h.b.drew⟩
theorem Bz.made (w : World) (a1 a2 : Array Value) : Bz w a1 a2 ((w.alloc (.cells a1 59)).alloc (.cells a2 59)) := by
  refine ⟨?_, ?_, bl_two w _ _⟩
  · rw [Below.heap_alloc _ _ _ (by simp only [World.size_alloc]; omega)]; exact heap_alloc_new w _
  · have := heap_alloc_new (w.alloc (.cells a1 59)) (.cells a2 59)
    simpa only [World.size_alloc] using this
theorem Bz.two {w W : World} {p q r s : Value} (h : Bz w #[p, q] #[r, s] W) : (W.cell? ⟨w.heap.size, 0, none⟩ = some p ∧ W.cell? ⟨w.heap.size, 1, none⟩ = some q) ∧ (W.cell? ⟨w.heap.size + 1, 0, none⟩ = some r ∧ W.cell? ⟨w.heap.size + 1, 1, none⟩ = some s) := by
  obtain ⟨c1, f1, z1⟩ := blk_cells h.h1
  obtain ⟨c2, f2, z2⟩ := blk_cells h.h2
  exact ⟨⟨c1 0, c1 1⟩, ⟨c2 0, c2 1⟩⟩
/-- A truth came back. -/
def TA (w : World) (e : Ending) (w' : World) : Prop := ∃ x : Bool, e = .returned (.bool x) ∧ Below w.heap.size w w'
set_option maxRecDepth 100000 in
set_option maxHeartbeats 800000 in
theorem m71_2 (w : World) (a b : Int) : Calls Try.prog 71 #[.agg #[.int .i64 2, .int .i64 a], .agg #[.int .i64 2, .int .i64 b]] w fun e w' => TA w e w' := by
  have H0 := hide (Bz.made w #[.int .i64 2, .int .i64 a] #[.int .i64 2, .int .i64 b])
  go_enter Try.func71, Try.ntmps71
  go_wp2_with fail
  refine (m65 _ 2 a b (.inl rfl)).mono ?_
  rintro e w1 ⟨rfl, hb⟩
  have H1 := hide ((unhide H0).go hb)
  clear hb H0
  obtain ⟨⟨p0, p1⟩, ⟨q0, q1⟩⟩ := (unhide H1).two
  have HB := hide (unhide H1).b
  clear H1
  go_wp2_with fail
  go_ret
  exact ⟨_, rfl, unhide HB⟩
set_option maxRecDepth 100000 in
set_option maxHeartbeats 800000 in
theorem m71_3 (w : World) (a b : Int) : Calls Try.prog 71 #[.agg #[.int .i64 3, .int .i64 a], .agg #[.int .i64 3, .int .i64 b]] w fun e w' => TA w e w' := by
  have H0 := hide (Bz.made w #[.int .i64 3, .int .i64 a] #[.int .i64 3, .int .i64 b])
  go_enter Try.func71, Try.ntmps71
  go_wp2_with fail
  refine (m65 _ 3 a b (.inr rfl)).mono ?_
  rintro e w1 ⟨rfl, hb⟩
  have H1 := hide ((unhide H0).go hb)
  clear hb H0
  go_wp2_with fail
  refine wp_region_held_drew (S := (fun W => Bz w #[.int .i64 3, .int .i64 a] #[.int .i64 3, .int .i64 b] W)) (by kernel_rfl) ((unhide H1).drew) (fun hHeld => ?_)
  clear hHeld
  refine wpAnyH_take (i := 0) (oi := _) (v := .agg #[.int .i64 3, .int .i64 a]) rfl (by kernel_rfl) (by kernel_rfl) (by kernel_rfl) (fun _ _ _ h => h) (Or.inl ⟨by rfl, (by intro w' hSw; obtain ⟨⟨p0, p1⟩, ⟨q0, q1⟩⟩ := hSw.two; go_simp)⟩) ((unhide H1).drew) ?_
  go_simp
  refine wpAnyH_take (i := 2) (oi := _) (v := .agg #[.int .i64 3, .int .i64 b]) rfl (by kernel_rfl) (by kernel_rfl) (by kernel_rfl) (fun _ _ _ h => h) (Or.inl ⟨by rfl, (by intro w' hSw; obtain ⟨⟨p0, p1⟩, ⟨q0, q1⟩⟩ := hSw.two; go_simp)⟩) ((unhide H1).drew) ?_
  go_simp
  have HD := hide (unhide H1).drew
  refine wpAnyH_ready (rs := [1]) (by kernel_rfl) (by simp) ?_
  refine AllReadyH.cons (o := _) rfl (fun K hK => ?_) AllReadyH.nil
  go_simp
  refine (m61 _ a).mono ?_
  rintro e w2 ⟨⟨r1, hr1, rfl⟩, hb⟩
  have H2 := hide ((unhide HD).go hb)
  clear hb
  refine hK.out _ _ (unhide H2) (fun _ => ?_)
  clear hK K
  go_simp
  refine wpAnyH_ready (rs := [3]) (by kernel_rfl) (by simp) ?_
  refine AllReadyH.cons (o := _) rfl (fun K hK => ?_) AllReadyH.nil
  go_simp
  refine (m61 _ b).mono ?_
  rintro e w3 ⟨⟨r3, hr3, rfl⟩, hb⟩
  have H3 := hide ((unhide H2).go hb)
  clear hb
  refine hK.out _ _ (unhide H3) (fun _ => ?_)
  clear hK K
  go_simp
  refine wpAnyH_ready (rs := [4]) (by kernel_rfl) (by simp) ?_
  refine AllReadyH.cons (o := _) rfl (fun K hK => ?_) AllReadyH.nil
  go_simp
  refine (less_any r1 r3 _).mono ?_
  rintro e w4 ⟨rfl, rfl⟩
  refine hK.out _ _ (unhide H3) (fun _ => ?_)
  clear hK K
  go_simp
  have HB := hide (unhide H3).b
  refine wpAnyH_ready (rs := [5]) (by kernel_rfl) (by simp) ?_
  refine AllReadyH.cons (o := _) rfl (fun K hK => ?_) AllReadyH.nil
  go_simp
  refine hK.out _ _ (unhide H3) (fun _ => ?_)
  clear hK K
  go_simp
  refine wpAnyH_done (by kernel_rfl) ?_ _
  go_wp2_with fail
  go_ret
  exact ⟨_, rfl, unhide HB⟩
set_option maxRecDepth 100000 in
set_option maxHeartbeats 800000 in
theorem m72_2 (w : World) (a b : Int) : Calls Try.prog 72 #[.agg #[.int .i64 2, .int .i64 a], .agg #[.int .i64 2, .int .i64 b]] w fun e w' => TA w e w' := by
  have H0 := hide (Bz.made w #[.int .i64 2, .int .i64 a] #[.int .i64 2, .int .i64 b])
  go_enter Try.func72, Try.ntmps72
  go_wp2_with fail
  refine (m65 _ 2 a b (.inl rfl)).mono ?_
  rintro e w1 ⟨rfl, hb⟩
  have H1 := hide ((unhide H0).go hb)
  clear hb H0
  obtain ⟨⟨p0, p1⟩, ⟨q0, q1⟩⟩ := (unhide H1).two
  have HB := hide (unhide H1).b
  clear H1
  go_wp2_with fail
  go_ret
  exact ⟨_, rfl, unhide HB⟩
set_option maxRecDepth 100000 in
set_option maxHeartbeats 800000 in
theorem m72_3 (w : World) (a b : Int) : Calls Try.prog 72 #[.agg #[.int .i64 3, .int .i64 a], .agg #[.int .i64 3, .int .i64 b]] w fun e w' => TA w e w' := by
  have H0 := hide (Bz.made w #[.int .i64 3, .int .i64 a] #[.int .i64 3, .int .i64 b])
  go_enter Try.func72, Try.ntmps72
  go_wp2_with fail
  refine (m65 _ 3 a b (.inr rfl)).mono ?_
  rintro e w1 ⟨rfl, hb⟩
  have H1 := hide ((unhide H0).go hb)
  clear hb H0
  go_wp2_with fail
  refine wp_region_held_drew (S := (fun W => Bz w #[.int .i64 3, .int .i64 a] #[.int .i64 3, .int .i64 b] W)) (by kernel_rfl) ((unhide H1).drew) (fun hHeld => ?_)
  clear hHeld
  refine wpAnyH_take (i := 0) (oi := _) (v := .agg #[.int .i64 3, .int .i64 a]) rfl (by kernel_rfl) (by kernel_rfl) (by kernel_rfl) (fun _ _ _ h => h) (Or.inl ⟨by rfl, (by intro w' hSw; obtain ⟨⟨p0, p1⟩, ⟨q0, q1⟩⟩ := hSw.two; go_simp)⟩) ((unhide H1).drew) ?_
  go_simp
  refine wpAnyH_take (i := 2) (oi := _) (v := .agg #[.int .i64 3, .int .i64 b]) rfl (by kernel_rfl) (by kernel_rfl) (by kernel_rfl) (fun _ _ _ h => h) (Or.inl ⟨by rfl, (by intro w' hSw; obtain ⟨⟨p0, p1⟩, ⟨q0, q1⟩⟩ := hSw.two; go_simp)⟩) ((unhide H1).drew) ?_
  go_simp
  have HD := hide (unhide H1).drew
  refine wpAnyH_ready (rs := [1]) (by kernel_rfl) (by simp) ?_
  refine AllReadyH.cons (o := _) rfl (fun K hK => ?_) AllReadyH.nil
  go_simp
  refine (m61 _ a).mono ?_
  rintro e w2 ⟨⟨r1, hr1, rfl⟩, hb⟩
  have H2 := hide ((unhide HD).go hb)
  clear hb
  refine hK.out _ _ (unhide H2) (fun _ => ?_)
  clear hK K
  go_simp
  refine wpAnyH_ready (rs := [3]) (by kernel_rfl) (by simp) ?_
  refine AllReadyH.cons (o := _) rfl (fun K hK => ?_) AllReadyH.nil
  go_simp
  refine (m61 _ b).mono ?_
  rintro e w3 ⟨⟨r3, hr3, rfl⟩, hb⟩
  have H3 := hide ((unhide H2).go hb)
  clear hb
  refine hK.out _ _ (unhide H3) (fun _ => ?_)
  clear hK K
  go_simp
  refine wpAnyH_ready (rs := [4]) (by kernel_rfl) (by simp) ?_
  refine AllReadyH.cons (o := _) rfl (fun K hK => ?_) AllReadyH.nil
  go_simp
  refine (equal_any r1 r3 _).mono ?_
  rintro e w4 ⟨rfl, rfl⟩
  refine hK.out _ _ (unhide H3) (fun _ => ?_)
  clear hK K
  go_simp
  have HB := hide (unhide H3).b
  refine wpAnyH_ready (rs := [5]) (by kernel_rfl) (by simp) ?_
  refine AllReadyH.cons (o := _) rfl (fun K hK => ?_) AllReadyH.nil
  go_simp
  refine hK.out _ _ (unhide H3) (fun _ => ?_)
  clear hK K
  go_simp
  refine wpAnyH_done (by kernel_rfl) ?_ _
  go_wp2_with fail
  go_ret
  exact ⟨_, rfl, unhide HB⟩
set_option maxRecDepth 100000 in
set_option maxHeartbeats 800000 in
theorem m54_2 (w : World) (a b : Int) : Calls Try.prog 54 #[.agg #[.int .i64 2, .int .i64 a], .agg #[.int .i64 2, .int .i64 b]] w fun e w' => VA w e w' := by
  have H0 := hide (Bx.made w #[.int .i64 2, .int .i64 a] #[.int .i64 2, .int .i64 b] #[.int .i64 0, .int .i64 0])
  go_enter Try.func54, Try.ntmps54
  go_wp2_with fail
  refine (m71_2 _ a b).mono ?_
  rintro e w1 ⟨t, rfl, hb⟩
  have H1 := hide ((unhide H0).go hb)
  clear hb H0
  go_wp2_with fail
  refine (m70 _ _).mono ?_
  rintro e w2 ⟨x, y, rfl, hb⟩
  have H2 := hide ((unhide H1).go hb)
  clear hb H1
  obtain ⟨⟨p0, p1⟩, ⟨q0, q1⟩, ⟨r0, r1⟩, ⟨g0, g1⟩, z⟩ := (unhide H2).cells
  have HB := hide (unhide H2).b
  clear H2
  go_wp2_with fail
  refine bodyPost_ret (v := .agg #[.int .i64 x, .int .i64 y]) ?_ rfl ?_
  · rw [results_cell_one rfl]
    go_simp
  · refine ⟨_, _, rfl, ?_⟩
    repeat (first | refine Below.setCell ?_ (by first | (simp; done) | (simp; omega)) _ | (with_reducible exact unhide HB))
set_option maxRecDepth 100000 in
set_option maxHeartbeats 800000 in
theorem m55_2 (w : World) (a b : Int) : Calls Try.prog 55 #[.agg #[.int .i64 2, .int .i64 a], .agg #[.int .i64 2, .int .i64 b]] w fun e w' => VA w e w' := by
  have H0 := hide (Bx.made w #[.int .i64 2, .int .i64 a] #[.int .i64 2, .int .i64 b] #[.int .i64 0, .int .i64 0])
  go_enter Try.func55, Try.ntmps55
  go_wp2_with fail
  refine (m71_2 _ a b).mono ?_
  rintro e w1 ⟨t, rfl, hb⟩
  have H1 := hide ((unhide H0).go hb)
  clear hb H0
  cases t
  · obtain ⟨⟨p0, p1⟩, ⟨q0, q1⟩, ⟨r0, r1⟩, ⟨g0, g1⟩, z⟩ := (unhide H1).cells
    go_wp2_with fail
    clear p0 p1 q0 q1 r0 r1 g0 g1 z
    refine (m72_2 _ a b).mono ?_
    rintro e w3 ⟨t, rfl, hb⟩
    have H3 := hide ((unhide H1).go hb)
    clear hb H1
    have H1 := H3
    clear H3
    go_wp2_with fail
    refine (m70 _ _).mono ?_
    rintro e w2 ⟨x, y, rfl, hb⟩
    have H2 := hide ((unhide H1).go hb)
    clear hb H1
    obtain ⟨⟨p0, p1⟩, ⟨q0, q1⟩, ⟨r0, r1⟩, ⟨g0, g1⟩, z⟩ := (unhide H2).cells
    have HB := hide (unhide H2).b
    clear H2
    go_wp2_with fail
    refine bodyPost_ret (v := .agg #[.int .i64 x, .int .i64 y]) ?_ rfl ?_
    · rw [results_cell_one rfl]
      go_simp
    · refine ⟨_, _, rfl, ?_⟩
      repeat (first | refine Below.setCell ?_ (by first | (simp; done) | (simp; omega)) _ | (with_reducible exact unhide HB))
  · go_wp2_with fail
    refine (m70 _ _).mono ?_
    rintro e w2 ⟨x, y, rfl, hb⟩
    have H2 := hide ((unhide H1).go hb)
    clear hb H1
    obtain ⟨⟨p0, p1⟩, ⟨q0, q1⟩, ⟨r0, r1⟩, ⟨g0, g1⟩, z⟩ := (unhide H2).cells
    have HB := hide (unhide H2).b
    clear H2
    go_wp2_with fail
    refine bodyPost_ret (v := .agg #[.int .i64 x, .int .i64 y]) ?_ rfl ?_
    · rw [results_cell_one rfl]
      go_simp
    · refine ⟨_, _, rfl, ?_⟩
      repeat (first | refine Below.setCell ?_ (by first | (simp; done) | (simp; omega)) _ | (with_reducible exact unhide HB))
set_option maxRecDepth 100000 in
set_option maxHeartbeats 800000 in
theorem m54_3 (w : World) (a b : Int) : Calls Try.prog 54 #[.agg #[.int .i64 3, .int .i64 a], .agg #[.int .i64 3, .int .i64 b]] w fun e w' => VA w e w' := by
  have H0 := hide (Bx.made w #[.int .i64 3, .int .i64 a] #[.int .i64 3, .int .i64 b] #[.int .i64 0, .int .i64 0])
  go_enter Try.func54, Try.ntmps54
  go_wp2_with fail
  refine (m71_3 _ a b).mono ?_
  rintro e w1 ⟨t, rfl, hb⟩
  have H1 := hide ((unhide H0).go hb)
  clear hb H0
  go_wp2_with fail
  refine (m70 _ _).mono ?_
  rintro e w2 ⟨x, y, rfl, hb⟩
  have H2 := hide ((unhide H1).go hb)
  clear hb H1
  obtain ⟨⟨p0, p1⟩, ⟨q0, q1⟩, ⟨r0, r1⟩, ⟨g0, g1⟩, z⟩ := (unhide H2).cells
  have HB := hide (unhide H2).b
  clear H2
  go_wp2_with fail
  refine bodyPost_ret (v := .agg #[.int .i64 x, .int .i64 y]) ?_ rfl ?_
  · rw [results_cell_one rfl]
    go_simp
  · refine ⟨_, _, rfl, ?_⟩
    repeat (first | refine Below.setCell ?_ (by first | (simp; done) | (simp; omega)) _ | (with_reducible exact unhide HB))
set_option maxRecDepth 100000 in
set_option maxHeartbeats 800000 in
theorem m55_3 (w : World) (a b : Int) : Calls Try.prog 55 #[.agg #[.int .i64 3, .int .i64 a], .agg #[.int .i64 3, .int .i64 b]] w fun e w' => VA w e w' := by
  have H0 := hide (Bx.made w #[.int .i64 3, .int .i64 a] #[.int .i64 3, .int .i64 b] #[.int .i64 0, .int .i64 0])
  go_enter Try.func55, Try.ntmps55
  go_wp2_with fail
  refine (m71_3 _ a b).mono ?_
  rintro e w1 ⟨t, rfl, hb⟩
  have H1 := hide ((unhide H0).go hb)
  clear hb H0
  cases t
  · obtain ⟨⟨p0, p1⟩, ⟨q0, q1⟩, ⟨r0, r1⟩, ⟨g0, g1⟩, z⟩ := (unhide H1).cells
    go_wp2_with fail
    clear p0 p1 q0 q1 r0 r1 g0 g1 z
    refine (m72_3 _ a b).mono ?_
    rintro e w3 ⟨t, rfl, hb⟩
    have H3 := hide ((unhide H1).go hb)
    clear hb H1
    have H1 := H3
    clear H3
    go_wp2_with fail
    refine (m70 _ _).mono ?_
    rintro e w2 ⟨x, y, rfl, hb⟩
    have H2 := hide ((unhide H1).go hb)
    clear hb H1
    obtain ⟨⟨p0, p1⟩, ⟨q0, q1⟩, ⟨r0, r1⟩, ⟨g0, g1⟩, z⟩ := (unhide H2).cells
    have HB := hide (unhide H2).b
    clear H2
    go_wp2_with fail
    refine bodyPost_ret (v := .agg #[.int .i64 x, .int .i64 y]) ?_ rfl ?_
    · rw [results_cell_one rfl]
      go_simp
    · refine ⟨_, _, rfl, ?_⟩
      repeat (first | refine Below.setCell ?_ (by first | (simp; done) | (simp; omega)) _ | (with_reducible exact unhide HB))
  · go_wp2_with fail
    refine (m70 _ _).mono ?_
    rintro e w2 ⟨x, y, rfl, hb⟩
    have H2 := hide ((unhide H1).go hb)
    clear hb H1
    obtain ⟨⟨p0, p1⟩, ⟨q0, q1⟩, ⟨r0, r1⟩, ⟨g0, g1⟩, z⟩ := (unhide H2).cells
    have HB := hide (unhide H2).b
    clear H2
    go_wp2_with fail
    refine bodyPost_ret (v := .agg #[.int .i64 x, .int .i64 y]) ?_ rfl ?_
    · rw [results_cell_one rfl]
      go_simp
    · refine ⟨_, _, rfl, ?_⟩
      repeat (first | refine Below.setCell ?_ (by first | (simp; done) | (simp; omega)) _ | (with_reducible exact unhide HB))
end Go.Proofs.Ytncmegafkccblaa
