/-
  tell: a fault's place.
-/
import Derived.Test.YtlogmdldjmkkjaaGreatDoorAsAll
import Derived.Deep.RegionHeld3
namespace Go.Proofs.YtlogmdldjmkkjaaGreatDoor
open Go.RowKit
set_option linter.unusedVariables false
set_option linter.unusedSimpArgs false
theorem tell_nil (w : World) : Calls Tryz.prog 47 #[.nilIface] w fun e w' => e = .returned (.tuple #[.agg #[.int .i64 0, .int .i64 0], .int .i64 0]) ∧ Below w.heap.size w w' := by
  have HA := hide as_nil
  go_enter Tryz.func47, Tryz.ntmps47
  go_wp2_with fail
  refine (unhide HA _ _).mono ?_
  rintro e w' ⟨rfl, rfl⟩
  go_wp2_with fail
  refine bodyPost_ret (v := .tuple #[.agg #[.int .i64 0, .int .i64 0], .int .i64 0]) ?_ rfl ?_
  · rw [results_cell_tmp rfl]
    go_simp
  · refine ⟨rfl, ?_⟩
    exact (((Below.refl _ w).alloc (Nat.le_refl _) _).alloc (by simp) _).alloc (by simp; omega) _
set_option maxHeartbeats 4000000 in
theorem tell_any (k at' why : Int) (w : World) (hg : Laid w) : Calls Tryz.prog 47 #[.iface 140 (.agg #[.int .i64 k, .iface 138 (.agg #[.int .i64 at', .int .i64 why])])] w fun e w' => e = .returned (.tuple #[.agg #[.int .i64 k, .int .i64 at'], .int .i64 why]) ∧ Below w.heap.size w w' := by
  have gl : 0 < w.heap.size := World.block_lt_of_cell? _ _ hg
  have b3 : Below w.heap.size w (((w.alloc (.cells #[.int .i64 0, .int .i64 0] 46)).alloc (.cells #[.int .i64 0, .int .i64 0] 138)).alloc (.cells #[.int .i64 0, .nilIface] 140)) := (((Below.refl _ w).alloc (Nat.le_refl _) _).alloc (by simp) _).alloc (by simp; omega) _
  have n2 := heap_alloc_new ((w.alloc (.cells #[.int .i64 0, .int .i64 0] 46)).alloc (.cells #[.int .i64 0, .int .i64 0] 138)) (.cells #[.int .i64 0, .nilIface] 140)
  have n1 := heap_alloc_new (w.alloc (.cells #[.int .i64 0, .int .i64 0] 46)) (.cells #[.int .i64 0, .int .i64 0] 138)
  have n0 := heap_alloc_new w (.cells #[.int .i64 0, .int .i64 0] 46)
  simp only [World.size_alloc] at n0 n1 n2
  have m1 : (((w.alloc (.cells #[.int .i64 0, .int .i64 0] 46)).alloc (.cells #[.int .i64 0, .int .i64 0] 138)).alloc (.cells #[.int .i64 0, .nilIface] 140)).heap[w.heap.size + 1]? = some (.cells #[.int .i64 0, .int .i64 0] 138) := (Below.heap_alloc _ _ _ (by simp)).trans n1
  have m0 : (((w.alloc (.cells #[.int .i64 0, .int .i64 0] 46)).alloc (.cells #[.int .i64 0, .int .i64 0] 138)).alloc (.cells #[.int .i64 0, .nilIface] 140)).heap[w.heap.size]? = some (.cells #[.int .i64 0, .int .i64 0] 46) := (Below.heap_alloc _ _ _ (by simp; omega)).trans ((Below.heap_alloc _ _ _ (by simp)).trans n0)
  have HF := hide (asFault_any k at' why (w.heap.size + 1) (.int .i64 0) (.int .i64 0) (((w.alloc (.cells #[.int .i64 0, .int .i64 0] 46)).alloc (.cells #[.int .i64 0, .int .i64 0] 138)).alloc (.cells #[.int .i64 0, .nilIface] 140)) ((b3.cell (p := ⟨0, 0, none⟩) gl).trans hg) (by unfold World.cell?; simp only [m1]; rfl) (by unfold World.cell?; simp only [m1]; rfl) (by unfold World.frozen?; simp only [m1]; rfl) (by unfold World.frozen?; simp only [m1]; rfl))
  have HM := hide (And.intro m0 (And.intro n2 b3))
  have HG := hide hg
  have hsz : (((w.alloc (.cells #[.int .i64 0, .int .i64 0] 46)).alloc (.cells #[.int .i64 0, .int .i64 0] 138)).alloc (.cells #[.int .i64 0, .nilIface] 140)).heap.size = w.heap.size + 1 + 1 + 1 := by simp
  clear m0 m1 n0 n1 n2 b3
  go_enter Tryz.func47, Tryz.ntmps47
  go_wp2_with fail
  refine (unhide HF).mono ?_
  rintro e w4 ⟨rfl, f4, c0, c1⟩
  have s4 := f4.size
  rw [hsz] at s4
  have d2 : w4.heap[w.heap.size + 1 + 1]? = some (.cells #[.int .i64 0, .nilIface] 140) := (f4.block (w.heap.size + 1 + 1) (by rw [hsz]; omega) (by omega)).trans (unhide HM).2.1
  have d0 : w4.heap[w.heap.size]? = some (.cells #[.int .i64 0, .int .i64 0] 46) := (f4.block (w.heap.size) (by rw [hsz]; omega) (by omega)).trans (unhide HM).1
  have g4 : Laid w4 := (f4.cell (a := ⟨0, 0, none⟩) (by show 0 < _; rw [hsz]; omega) (by simp)).trans (((unhide HM).2.2.cell (p := ⟨0, 0, none⟩) gl).trans (unhide HG))
  have HW := hide (asWithin_any k at' why (w.heap.size + 1 + 1) (.int .i64 0) .nilIface w4 g4 (by unfold World.cell?; simp only [d2]; rfl) (by unfold World.cell?; simp only [d2]; rfl) (by unfold World.frozen?; simp only [d2]; rfl) (by unfold World.frozen?; simp only [d2]; rfl))
  have b4 : Below w.heap.size w w4 := (unhide HM).2.2.trans (f4.below (by rw [hsz]; omega) (fun k hk e => by omega))
  have D0 := hide d0
  have B4 := hide b4
  clear d0 d2 g4 b4 HF
  go_wp2_with fail
  refine (unhide HW).mono ?_
  rintro e w5 ⟨rfl, f5, w0, w1⟩
  have a0 := (f5.cell (a := ⟨w.heap.size + 1, 0, none⟩) (by show w.heap.size + 1 < w4.heap.size; omega) (by simp)).trans c0
  have a1 := (f5.cell (a := ⟨w.heap.size + 1, 1, none⟩) (by show w.heap.size + 1 < w4.heap.size; omega) (by simp)).trans c1
  have d0 := (f5.block (w.heap.size) (by omega) (by omega)).trans (unhide D0)
  have p0 : w5.cell? ⟨w.heap.size, 0, none⟩ = some (.int .i64 0) := by unfold World.cell?; simp only [d0]; rfl
  have p1 : w5.cell? ⟨w.heap.size, 1, none⟩ = some (.int .i64 0) := by unfold World.cell?; simp only [d0]; rfl
  have q0 : w5.frozen? ⟨w.heap.size, 0, none⟩ = false := by unfold World.frozen?; simp only [d0]; rfl
  have q1 : w5.frozen? ⟨w.heap.size, 1, none⟩ = false := by unfold World.frozen?; simp only [d0]; rfl
  have s5 := f5.size
  have hl0 : w.heap.size < w5.heap.size := by omega
  have b5 := hide ((unhide B4).trans (f5.below (by omega) (fun k hk e => by omega)))
  have s0' : ∀ u v, ((w5.setCell ⟨w.heap.size, 0, none⟩ u).setCell ⟨w.heap.size, 1, none⟩ v).cell? ⟨w.heap.size + 1 + 1, 0, none⟩ = some (.int .i64 k) := fun u v => by rw [World.cell?_setCell_far _ _ _ _ (by simp; omega), World.cell?_setCell_far _ _ _ _ (by simp; omega)]; exact w0
  have s1' : ∀ u v, ((w5.setCell ⟨w.heap.size, 0, none⟩ u).setCell ⟨w.heap.size, 1, none⟩ v).cell? ⟨w.heap.size + 1, 0, none⟩ = some (.int .i64 at') := fun u v => by rw [World.cell?_setCell_far _ _ _ _ (by simp), World.cell?_setCell_far _ _ _ _ (by simp)]; exact a0
  have s2' : ∀ u v, ((w5.setCell ⟨w.heap.size, 0, none⟩ u).setCell ⟨w.heap.size, 1, none⟩ v).cell? ⟨w.heap.size + 1, 1, none⟩ = some (.int .i64 why) := fun u v => by rw [World.cell?_setCell_far _ _ _ _ (by simp), World.cell?_setCell_far _ _ _ _ (by simp)]; exact a1
  clear d0 f4 f5 HW
  go_wp2_with fail
  refine wp_region_held_drew (S := (fun wx => wx.cell? ⟨w.heap.size + 1 + 1, 0, none⟩ = some (.int .i64 k) ∧ wx.cell? ⟨w.heap.size + 1, 0, none⟩ = some (.int .i64 at') ∧ wx.cell? ⟨w.heap.size + 1, 1, none⟩ = some (.int .i64 why))) (by kernel_rfl) ⟨w0, a0, a1⟩ (fun hHeld => ?_)
  refine wpAnyH_take (i := 0) (oi := _) (v := .pointer (some ⟨w.heap.size + 1 + 1, 0, none⟩)) rfl (by kernel_rfl) (by kernel_rfl) (by kernel_rfl) (fun _ _ _ h => h) (Or.inl ⟨by rfl, (by intro w hSw; go_simp)⟩) (by assumption) ?_
  refine wpAnyH_take (i := 1) (oi := _) (v := .int .i64 k) rfl (by kernel_rfl) (by kernel_rfl) (by kernel_rfl) (fun _ _ _ h => h) (Or.inl ⟨by rfl, (by intro w hSw; obtain ⟨s0, s1, s2⟩ := hSw; go_simp)⟩) (by assumption) ?_
  refine wpAnyH_take (i := 2) (oi := _) (v := .pointer (some ⟨w.heap.size + 1, 0, none⟩)) rfl (by kernel_rfl) (by kernel_rfl) (by kernel_rfl) (fun _ _ _ h => h) (Or.inl ⟨by rfl, (by intro w hSw; go_simp)⟩) (by assumption) ?_
  go_simp
  refine wpAnyH_take (i := 3) (oi := _) (v := .int .i64 at') rfl (by kernel_rfl) (by kernel_rfl) (by kernel_rfl) (fun _ _ _ h => h) (Or.inl ⟨by rfl, (by intro w hSw; obtain ⟨s0, s1, s2⟩ := hSw; go_simp)⟩) (by assumption) ?_
  refine wpAnyH_take (i := 4) (oi := _) (v := .agg #[.int .i64 k, .int .i64 at']) rfl (by kernel_rfl) (by kernel_rfl) (by kernel_rfl) (fun _ _ _ h => h) (Or.inl ⟨by rfl, (by intro w hSw; go_simp)⟩) (by assumption) ?_
  refine wpAnyH_take (i := 5) (oi := _) (v := .pointer (some ⟨w.heap.size + 1, 1, none⟩)) rfl (by kernel_rfl) (by kernel_rfl) (by kernel_rfl) (fun _ _ _ h => h) (Or.inl ⟨by rfl, (by intro w hSw; go_simp)⟩) (by assumption) ?_
  go_simp
  refine wpAnyH_take (i := 6) (oi := _) (v := .int .i64 why) rfl (by kernel_rfl) (by kernel_rfl) (by kernel_rfl) (fun _ _ _ h => h) (Or.inl ⟨by rfl, (by intro w hSw; obtain ⟨s0, s1, s2⟩ := hSw; go_simp)⟩) (by assumption) ?_
  go_simp
  refine wpAnyH_ready (rs := [7]) (by kernel_rfl) (by simp) ?_
  refine AllReadyH.cons (o := _) rfl (fun K hK => ?_) AllReadyH.nil
  go_simp
  refine hK.out _ _ ⟨s0' _ _, s1' _ _, s2' _ _⟩ (fun hHeld1 => ?_)
  clear hK K
  go_simp
  refine wpAnyH_ready (rs := [8]) (by kernel_rfl) (by simp) ?_
  refine AllReadyH.cons (o := _) rfl (fun K hK => ?_) AllReadyH.nil
  go_simp
  refine hK.out _ _ hHeld1 (fun hHeld2 => ?_)
  clear hK K
  go_simp
  refine wpAnyH_done (by kernel_rfl) ?_ _
  clear hHeld hHeld1 hHeld2
  go_wp2_with fail
  refine bodyPost_ret (v := .tuple #[.agg #[.int .i64 k, .int .i64 at'], .int .i64 why]) ?_ rfl ?_
  · rw [results_cell_tmp rfl]
    go_simp
  · refine ⟨rfl, (unhide b5).trans (Fr.below (S := fun k => k = w.heap.size) (((Fr.refl (fun k => k = w.heap.size) w5).setCell ⟨w.heap.size, 0, none⟩ (.inr rfl) _).setCell ⟨w.heap.size, 1, none⟩ (.inr rfl) _).drew (by omega) (fun k hk e => by omega))⟩
end Go.Proofs.YtlogmdldjmkkjaaGreatDoor
