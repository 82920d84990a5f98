/-
  The examples are as they should be.
-/
import Derived.Test.YtclcebdcdbcpjaaGreatSh2
namespace Go.Proofs.YtclcebdcdbcpjaaGreat
open Go.RowKit
set_option linter.unusedVariables false
set_option linter.unusedSimpArgs false
set_option maxRecDepth 100000 in
set_option maxHeartbeats 25600000 in
theorem shown_any (w : World) : Calls Tryz.prog 7 #[] w fun e w' => e = .returned (.bool true) ∧ Below w.heap.size w w' := by
  go_enter Tryz.func7, Tryz.ntmps7
  go_wp2_with fail
  refine (two_any _).mono ?_
  rintro e w1 ⟨v, rfl, hp, hb1⟩
  have HNEW := hide (new_any hp (PfV.nil w1) (fun l hl => by simp at hl) (by simp) (by simp))
  rw [sh_new] at HNEW
  have HB1 := hide hb1
  clear hp hb1
  go_wp2_with fail
  refine (unhide HNEW).mono ?_
  rintro e w2 ⟨p, rfl, hbk, hb2⟩
  obtain ⟨Z, hZ⟩ : ∃ Z : Nat → Prop, Hid (Z = fun k => w1.heap.size ≤ k) := ⟨_, rfl⟩
  rw [← unhide hZ] at hbk
  have HZ : Hid (∀ k, Z k → w.heap.size ≤ k) := fun k hk => by rw [unhide hZ] at hk; have := (unhide HB1).size; have h2 : w1.heap.size ≤ k := hk; omega
  have HB2 : Hid (Below w.heap.size w w2) := (unhide HB1).trans (hb2.mono (unhide HB1).size)
  -- the first note
  have HN1 : Hid (Calls Tryz.prog 21 #[.pointer (some ⟨p, 0, none⟩), .int .i64 0, .int .i64 1, .slice (some ⟨w2.heap.size, 0, none⟩) 2 2, .int .i64 0] (w2.alloc (.cells #[.int .i64 2, .int .i64 0, .int .i64 3, .int .i64 0] 59)) fun e w' => e = .returned (.tuple #[]) ∧ BkM Z w' p [[spZ, ⟨1, 8, 4, 0⟩]] ∧ Fr Z (w2.alloc (.cells #[.int .i64 2, .int .i64 0, .int .i64 3, .int .i64 0] 59)) w') := by
    have := note_any (hbk.below ((Below.refl _ w2).alloc (Nat.le_refl _) (.cells #[.int .i64 2, .int .i64 0, .int .i64 3, .int .i64 0] 59))) ok_n0 (0, 1) (by unfold OkV; decide) (new_rx zI w2 [(2, 0), (3, 0)] _ _ rfl (by decide)) (by simp) 0 (by unfold I64; omega)
    rw [sh_n1] at this
    exact this
  clear hbk hb2 HNEW hZ
  go_wp2_with fail
  refine (unhide HN1).mono ?_
  rintro e w3 ⟨rfl, hbk, hf3⟩
  have HB3 : Hid (Below w.heap.size w w3) := fr_below ((unhide HB2).alloc (unhide HB2).size _) hf3 (unhide HZ)
  have HN2 : Hid (Calls Tryz.prog 21 #[.pointer (some ⟨p, 0, none⟩), .int .i64 0, .int .i64 1, .slice (some ⟨w3.heap.size, 0, none⟩) 1 1, .int .i64 3] (w3.alloc (.cells #[.int .i64 2, .int .i64 0] 59)) fun e w' => e = .returned (.tuple #[]) ∧ BkM Z w' p f3 ∧ Fr Z (w3.alloc (.cells #[.int .i64 2, .int .i64 0] 59)) w') := by
    have := note_any (hbk.below ((Below.refl _ w3).alloc (Nat.le_refl _) (.cells #[.int .i64 2, .int .i64 0] 59))) ok_n1 (0, 1) (by unfold OkV; decide) (new_rx zI w3 [(2, 0)] _ _ rfl (by decide)) (by simp) 3 (by unfold I64; omega)
    rw [sh_n2] at this
    exact this
  clear hbk hf3 HN1
  go_wp2_with fail
  refine (unhide HN2).mono ?_
  rintro e w4 ⟨rfl, hbk, hf4⟩
  have HB4 : Hid (Below w.heap.size w w4) := fr_below ((unhide HB3).alloc (unhide HB3).size _) hf4 (unhide HZ)
  have HN3 : Hid (Calls Tryz.prog 21 #[.pointer (some ⟨p, 0, none⟩), .int .i64 0, .int .i64 2, .slice none 0 0, .int .i64 0] w4 fun e w' => e = .returned (.tuple #[]) ∧ BkM Z w' p f3 ∧ Fr Z w4 w') := by
    have := note_any hbk ok_f3 (0, 2) (by unfold OkV; decide) (l := []) (by simpa [flt] using Rx.nil w4 2) (by simp) 0 (by unfold I64; omega)
    rw [sh_n3] at this
    exact this
  clear hbk hf4 HN2
  go_wp2_with fail
  refine (unhide HN3).mono ?_
  rintro e w5 ⟨rfl, hbk, hf5⟩
  have HB5 : Hid (Below w.heap.size w w5) := fr_below (unhide HB4) hf5 (unhide HZ)
  have HPR := hide (profile_any hbk ok_f3 (by simp [f3]) (by simp [f3]))
  clear hbk hf5 HN3
  go_wp2_with fail
  refine (unhide HPR).mono ?_
  rintro e w6 ⟨gv, vs, rfl, ho, hb6⟩
  have HB6 : Hid (Below w.heap.size w w6) := (unhide HB5).trans (hb6.mono (unhide HB5).size)
  have HS5 := hide (unhide HB5).size
  obtain ⟨g, off, cap, eg, hg1, hg2, hg3, hg4⟩ := ho.row.full (by simp [f3])
  subst eg
  obtain ⟨u, rfl⟩ : ∃ u, vs = [u] := by
    have hl := ho.len
    match vs, hl with
    | [u], _ => exact ⟨u, rfl⟩
  have hsr : Ro w6 4 u 2 (flt enS [spZ, ⟨2, 12, 4, 3⟩]) := ho.el 0 _ u rfl rfl
  obtain ⟨rb, ro, rc, er, hr1, hr2, hr3, hr4⟩ := hsr.full (by omega)
  subst er
  have hrz := ho.eb 0 _ rb rfl rfl
  have hu0 : w6.cell? ⟨g, off, none⟩ = some (.slice (some ⟨rb, ro, none⟩) 2 rc) := by
    have := hg4 0 (by simp [f3])
    simpa [flt, enV] using this
  have HSO := hide ho
  have HSR := hide hsr
  clear ho hg4 hsr hr4 hb6 HPR
  have e31 : f3.length = 1 := rfl
  rw [e31] at hg1 HSO ⊢
  go_wp2_with fail
  obtain ⟨fb, hfb⟩ : ∃ b, Hid (w6.heap.size = b) := ⟨_, hide rfl⟩
  obtain ⟨X, hX⟩ : ∃ X, Hid ((w6.alloc (.cells #[.slice (some ⟨g, off, none⟩) 1 cap] 25)).alloc (.cells #[.int .i64 2, .int .u16 12, .int .u16 4, .int .i64 3] 62) = X) := ⟨_, hide rfl⟩
  have h6X : Below w6.heap.size w6 X := by rw [← unhide hX]; exact ((Below.refl _ w6).alloc (Nat.le_refl _) _).alloc (by rw [World.size_alloc]; omega) _
  have hXs : X.heap.size = fb + 2 := by rw [← unhide hX, ← unhide hfb]; simp only [World.size_alloc]
  have hXa : X.heap[fb]? = some (.cells #[.slice (some ⟨g, off, none⟩) 1 cap] 25) := by
    rw [← unhide hX, ← unhide hfb, Below.heap_alloc _ _ _ (by rw [World.size_alloc]; omega)]; exact heap_alloc_new w6 _
  have hXb : X.heap[fb + 1]? = some (.cells #[.int .i64 2, .int .u16 12, .int .u16 4, .int .i64 3] 62) := by
    rw [← unhide hX, ← unhide hfb]
    have := heap_alloc_new (w6.alloc (.cells #[.slice (some ⟨g, off, none⟩) 1 cap] 25)) (.cells #[.int .i64 2, .int .u16 12, .int .u16 4, .int .i64 3] 62)
    rw [World.size_alloc] at this
    exact this
  have HBX : Hid (Below w.heap.size w X) := (unhide HB6).trans (h6X.mono (unhide HB6).size)
  have HX0 : Hid (Below X.heap.size X X.drew) := ⟨rfl, rfl, rfl, Nat.le_refl _, fun _ _ => rfl⟩
  have HU : Hid (∀ V, Below X.heap.size X V → V.cell? ⟨fb, 0, none⟩ = some (.slice (some ⟨g, off, none⟩) 1 cap) ∧ V.cell? ⟨fb + 1, 0, none⟩ = some (.int .i64 2) ∧ V.cell? ⟨fb + 1, 1, none⟩ = some (.int .u16 12) ∧ V.cell? ⟨fb + 1, 2, none⟩ = some (.int .u16 4) ∧ V.cell? ⟨fb + 1, 3, none⟩ = some (.int .i64 3) ∧ V.cell? ⟨g, off, none⟩ = some (.slice (some ⟨rb, ro, none⟩) 2 rc)) := fun V hV => by
    have a1 := (blk_cells ((hV.block fb (by omega)).trans hXa)).1
    have a2 := (blk_cells ((hV.block (fb + 1) (by omega)).trans hXb)).1
    refine ⟨a1 0, a2 0, a2 1, a2 2, a2 3, (hV.cell (p := ⟨g, off, none⟩) ?_).trans ((h6X.cell (p := ⟨g, off, none⟩) hg3).trans hu0)⟩
    have := h6X.size
    show g < X.heap.size
    omega
  have HSX := hide ((unhide HSO).below staysS h6X)
  have HAT0 : Hid (∀ V, Below X.heap.size X V → Calls Tryz.prog 22 #[.agg #[.slice (some ⟨g, off, none⟩) 1 cap], .int .i64 0, .int .i64 0] V fun e w' => e = .returned (.agg #[.int .i64 0, .int .u16 0, .int .u16 0, .int .i64 0]) ∧ Below V.heap.size V w') := fun V hV => at_any ((OW.pf (unhide HSX)).below hV (Nat.le_refl _)) 0 0
  have HAT1 : Hid (∀ V, Below X.heap.size X V → Calls Tryz.prog 22 #[.agg #[.slice (some ⟨g, off, none⟩) 1 cap], .int .i64 0, .int .i64 1] V fun e w' => e = .returned (.agg #[.int .i64 2, .int .u16 12, .int .u16 4, .int .i64 3]) ∧ Below V.heap.size V w') := fun V hV => at_any ((OW.pf (unhide HSX)).below hV (Nat.le_refl _)) 0 1
  have nq0 : ∀ W : World, (binOp .neq 62 (.agg #[.int .i64 0, .int .u16 0, .int .u16 0, .int .i64 0]) (.agg #[.int .i64 0, .int .u16 0, .int .u16 0, .int .i64 0])).run Tryz.prog W = .ok (.bool false) W := fun W => by kernel_rfl
  have nq1 : ∀ W : World, (binOp .neq 62 (.agg #[.int .i64 2, .int .u16 12, .int .u16 4, .int .i64 3]) (.agg #[.int .i64 2, .int .u16 12, .int .u16 4, .int .i64 3])).run Tryz.prog W = .ok (.bool false) W := fun W => by kernel_rfl
  have HHX := hide hXs
  have HRW : Hid (w5.heap.size ≤ rb) := hrz.1
  have HRB : Hid (rb < fb ∧ g < fb ∧ rb ≠ g) := by
    have q1 := hrz.2.2
    refine ⟨by rw [← unhide hfb]; exact hr3, by rw [← unhide hfb]; exact hg3, fun e => q1 (by rw [e]; rfl)⟩
  rw [unhide hfb, unhide hX]
  clear hXa hXb h6X hu0 HSO hX hrz hr3 hg3 hXs
  refine wp_region_held_drew (S := (fun V => Below X.heap.size X V)) (by kernel_rfl) (unhide HX0) (fun hHeld => ?_)
  clear hHeld
  refine wpAnyH_take (i := 0) (oi := _) (v := .agg #[.slice (some ⟨g, off, none⟩) 1 cap]) rfl (by kernel_rfl) (by kernel_rfl) (by kernel_rfl) (fun _ _ _ h => h) (Or.inl ⟨by rfl, (by intro w' hSw; obtain ⟨x0, x1, x2, x3, x4, x5⟩ := unhide HU w' hSw; go_simp)⟩) (unhide HX0) ?_
  go_simp
  refine wpAnyH_take (i := 2) (oi := _) (v := .agg #[.int .i64 0, .int .u16 0, .int .u16 0, .int .i64 0]) rfl (by kernel_rfl) (by kernel_rfl) (by kernel_rfl) (fun _ _ _ h => h) (Or.inl ⟨by rfl, (by intro w' hSw; obtain ⟨x0, x1, x2, x3, x4, x5⟩ := unhide HU w' hSw; go_simp)⟩) (unhide HX0) ?_
  go_simp
  refine wpAnyH_ready (rs := [1]) (by kernel_rfl) (by simp) ?_
  refine AllReadyH.cons (o := _) rfl (fun K hK => ?_) AllReadyH.nil
  go_simp
  refine (unhide HAT0 X.drew (unhide HX0)).mono ?_
  rintro e V1 ⟨rfl, hV1⟩
  have HBV1 : Hid (Below X.heap.size X V1) := (unhide HX0).trans (hV1.mono (unhide HX0).size)
  clear hV1
  go_simp
  refine hK.out _ _ (unhide HBV1) (fun _ => ?_)
  clear hK K
  go_simp
  refine wpAnyH_take (i := 3) (oi := _) (v := .bool false) rfl (by kernel_rfl) (by kernel_rfl) (by kernel_rfl) (fun _ _ _ h => h) (Or.inl ⟨by rfl, (by intro w' hSw; obtain ⟨x0, x1, x2, x3, x4, x5⟩ := unhide HU w' hSw; go_simp)⟩) (unhide HBV1) ?_
  go_simp
  refine wpAnyH_take (i := 4) (oi := _) (v := .bool false) rfl (by kernel_rfl) (by kernel_rfl) (by kernel_rfl) (fun _ _ _ h => h) (Or.inl ⟨by rfl, (by intro w' hSw; obtain ⟨x0, x1, x2, x3, x4, x5⟩ := unhide HU w' hSw; go_simp)⟩) (unhide HBV1) ?_
  go_simp
  refine wpAnyH_take (i := 5) (oi := _) (v := .agg #[.slice (some ⟨g, off, none⟩) 1 cap]) rfl (by kernel_rfl) (by kernel_rfl) (by kernel_rfl) (fun _ _ _ h => h) (Or.inl ⟨by rfl, (by intro w' hSw; obtain ⟨x0, x1, x2, x3, x4, x5⟩ := unhide HU w' hSw; go_simp)⟩) (unhide HBV1) ?_
  go_simp
  refine wpAnyH_take (i := 7) (oi := _) (v := .agg #[.int .i64 2, .int .u16 12, .int .u16 4, .int .i64 3]) rfl (by kernel_rfl) (by kernel_rfl) (by kernel_rfl) (fun _ _ _ h => h) (Or.inl ⟨by rfl, (by intro w' hSw; obtain ⟨x0, x1, x2, x3, x4, x5⟩ := unhide HU w' hSw; go_simp)⟩) (unhide HBV1) ?_
  go_simp
  refine wpAnyH_ready (rs := [6]) (by kernel_rfl) (by simp) ?_
  refine AllReadyH.cons (o := _) rfl (fun K hK => ?_) AllReadyH.nil
  go_simp
  refine (unhide HAT1 V1 (unhide HBV1)).mono ?_
  rintro e V2 ⟨rfl, hV2⟩
  have HBV2 : Hid (Below X.heap.size X V2) := (unhide HBV1).trans (hV2.mono (unhide HBV1).size)
  clear hV2
  go_simp
  refine hK.out _ _ (unhide HBV2) (fun _ => ?_)
  clear hK K
  go_simp
  refine wpAnyH_take (i := 8) (oi := _) (v := .bool false) rfl (by kernel_rfl) (by kernel_rfl) (by kernel_rfl) (fun _ _ _ h => h) (Or.inl ⟨by rfl, (by intro w' hSw; obtain ⟨x0, x1, x2, x3, x4, x5⟩ := unhide HU w' hSw; go_simp)⟩) (unhide HBV2) ?_
  go_simp
  refine wpAnyH_take (i := 9) (oi := _) (v := .bool false) rfl (by kernel_rfl) (by kernel_rfl) (by kernel_rfl) (fun _ _ _ h => h) (Or.inl ⟨by rfl, (by intro w' hSw; obtain ⟨x0, x1, x2, x3, x4, x5⟩ := unhide HU w' hSw; go_simp)⟩) (unhide HBV2) ?_
  go_simp
  refine wpAnyH_take (i := 10) (oi := _) (v := .bool false) rfl (by kernel_rfl) (by kernel_rfl) (by kernel_rfl) (fun _ _ _ h => h) (Or.inl ⟨by rfl, (by intro w' hSw; obtain ⟨x0, x1, x2, x3, x4, x5⟩ := unhide HU w' hSw; go_simp)⟩) (unhide HBV2) ?_
  go_simp
  refine wpAnyH_take (i := 11) (oi := _) (v := .pointer (some ⟨fb, 0, none⟩)) rfl (by kernel_rfl) (by kernel_rfl) (by kernel_rfl) (fun _ _ _ h => h) (Or.inl ⟨by rfl, (by intro w' hSw; obtain ⟨x0, x1, x2, x3, x4, x5⟩ := unhide HU w' hSw; go_simp)⟩) (unhide HBV2) ?_
  go_simp
  refine wpAnyH_take (i := 12) (oi := _) (v := .slice (some ⟨g, off, none⟩) 1 cap) rfl (by kernel_rfl) (by kernel_rfl) (by kernel_rfl) (fun _ _ _ h => h) (Or.inl ⟨by rfl, (by intro w' hSw; obtain ⟨x0, x1, x2, x3, x4, x5⟩ := unhide HU w' hSw; go_simp)⟩) (unhide HBV2) ?_
  go_simp
  refine wpAnyH_take (i := 13) (oi := _) (v := .int .i64 1) rfl (by kernel_rfl) (by kernel_rfl) (by kernel_rfl) (fun _ _ _ h => h) (Or.inl ⟨by rfl, (by intro w' hSw; obtain ⟨x0, x1, x2, x3, x4, x5⟩ := unhide HU w' hSw; go_simp)⟩) (unhide HBV2) ?_
  go_simp
  refine wpAnyH_take (i := 14) (oi := _) (v := .bool false) rfl (by kernel_rfl) (by kernel_rfl) (by kernel_rfl) (fun _ _ _ h => h) (Or.inl ⟨by rfl, (by intro w' hSw; obtain ⟨x0, x1, x2, x3, x4, x5⟩ := unhide HU w' hSw; go_simp)⟩) (unhide HBV2) ?_
  go_simp
  refine wpAnyH_take (i := 15) (oi := _) (v := .bool false) rfl (by kernel_rfl) (by kernel_rfl) (by kernel_rfl) (fun _ _ _ h => h) (Or.inl ⟨by rfl, (by intro w' hSw; obtain ⟨x0, x1, x2, x3, x4, x5⟩ := unhide HU w' hSw; go_simp)⟩) (unhide HBV2) ?_
  go_simp
  refine wpAnyH_take (i := 16) (oi := _) (v := .bool false) rfl (by kernel_rfl) (by kernel_rfl) (by kernel_rfl) (fun _ _ _ h => h) (Or.inl ⟨by rfl, (by intro w' hSw; obtain ⟨x0, x1, x2, x3, x4, x5⟩ := unhide HU w' hSw; go_simp)⟩) (unhide HBV2) ?_
  go_simp
  refine wpAnyH_take (i := 17) (oi := _) (v := .pointer (some ⟨fb, 0, none⟩)) rfl (by kernel_rfl) (by kernel_rfl) (by kernel_rfl) (fun _ _ _ h => h) (Or.inl ⟨by rfl, (by intro w' hSw; obtain ⟨x0, x1, x2, x3, x4, x5⟩ := unhide HU w' hSw; go_simp)⟩) (unhide HBV2) ?_
  go_simp
  refine wpAnyH_take (i := 18) (oi := _) (v := .slice (some ⟨g, off, none⟩) 1 cap) rfl (by kernel_rfl) (by kernel_rfl) (by kernel_rfl) (fun _ _ _ h => h) (Or.inl ⟨by rfl, (by intro w' hSw; obtain ⟨x0, x1, x2, x3, x4, x5⟩ := unhide HU w' hSw; go_simp)⟩) (unhide HBV2) ?_
  go_simp
  refine wpAnyH_take (i := 19) (oi := _) (v := .pointer (some ⟨g, off, none⟩)) rfl (by kernel_rfl) (by kernel_rfl) (by kernel_rfl) (fun _ _ _ h => h) (Or.inl ⟨by rfl, (by intro w' hSw; obtain ⟨x0, x1, x2, x3, x4, x5⟩ := unhide HU w' hSw; go_simp)⟩) (unhide HBV2) ?_
  go_simp
  refine wpAnyH_take (i := 20) (oi := _) (v := .slice (some ⟨rb, ro, none⟩) 2 rc) rfl (by kernel_rfl) (by kernel_rfl) (by kernel_rfl) (fun _ _ _ h => h) (Or.inl ⟨by rfl, (by intro w' hSw; obtain ⟨x0, x1, x2, x3, x4, x5⟩ := unhide HU w' hSw; go_simp)⟩) (unhide HBV2) ?_
  go_simp
  refine wpAnyH_take (i := 21) (oi := _) (v := .int .i64 2) rfl (by kernel_rfl) (by kernel_rfl) (by kernel_rfl) (fun _ _ _ h => h) (Or.inl ⟨by rfl, (by intro w' hSw; obtain ⟨x0, x1, x2, x3, x4, x5⟩ := unhide HU w' hSw; go_simp)⟩) (unhide HBV2) ?_
  go_simp
  refine wpAnyH_take (i := 22) (oi := _) (v := .bool false) rfl (by kernel_rfl) (by kernel_rfl) (by kernel_rfl) (fun _ _ _ h => h) (Or.inl ⟨by rfl, (by intro w' hSw; obtain ⟨x0, x1, x2, x3, x4, x5⟩ := unhide HU w' hSw; go_simp)⟩) (unhide HBV2) ?_
  go_simp
  refine wpAnyH_take (i := 23) (oi := _) (v := .bool false) rfl (by kernel_rfl) (by kernel_rfl) (by kernel_rfl) (fun _ _ _ h => h) (Or.inl ⟨by rfl, (by intro w' hSw; obtain ⟨x0, x1, x2, x3, x4, x5⟩ := unhide HU w' hSw; go_simp)⟩) (unhide HBV2) ?_
  go_simp
  refine wpAnyH_done (by kernel_rfl) ?_ _

  obtain ⟨y0, -, -, -, -, y5⟩ := unhide HU V2 (unhide HBV2)
  have hSV := (unhide HSX).below staysS (unhide HBV2)
  have hRV : Ro V2 4 (.slice (some ⟨rb, ro, none⟩) 2 rc) 2 (flt enS [spZ, ⟨2, 12, 4, 3⟩]) := hSV.el 0 _ _ rfl rfl
  obtain ⟨_, _, _, ee, _, _, hrl, hrc⟩ := hRV.full (by omega)
  cases ee
  have y7 : V2.cell? ⟨rb, ro + 4 + 3, none⟩ = some (.int .i64 3) := hrc 7 (by omega)
  have y8 : V2.frozen? ⟨rb, ro + 4 + 3, none⟩ = false := hRV.free rfl _
  have fY : Fr (fun k => k = rb) V2 (V2.setCell ⟨rb, ro + 4 + 3, none⟩ (.int .i64 (-1))) := (Fr.refl (fun k => k = rb) V2).setCell ⟨rb, ro + 4 + 3, none⟩ (.inr rfl) _
  have HPF : Hid (PfV (V2.setCell ⟨rb, ro + 4 + 3, none⟩ (.int .i64 (-1))) (.slice (some ⟨g, off, none⟩) 1 cap) f4) := by
    have hr' := (hRV.sets rfl (o := ro + 7) (m := 2) (vs := [.int .i64 (-1)]) (ys := flt enS [spZ, ⟨2, 12, 4, -1⟩]) (by omega) (by simp; omega) hr1 rfl (fun j hj => by
      have hj' : j = 0 ∨ j = 1 ∨ j = 2 ∨ j = 3 ∨ j = 4 ∨ j = 5 ∨ j = 6 ∨ j = 7 := by omega
      rcases hj' with rfl | rfl | rfl | rfl | rfl | rfl | rfl | rfl
      all_goals first | (rw [if_neg (by simp only [List.length_cons, List.length_nil]; omega)]; rfl) | (rw [if_pos (by simp only [List.length_cons, List.length_nil]; omega)]; simp; rfl)) (fun j hj q => by omega)).1
    have row' := hSV.row.fr fY (fun k hk e => by cases hk; exact (unhide HRB).2.2 e.symm)
    refine ⟨[.slice (some ⟨rb, ro, none⟩) 2 rc], rfl, Rx.of_ro row', fun i l u hl hu => ?_⟩
    match i, hl, hu with
    | 0, hl, hu =>
      simp [f4] at hl hu
      subst hl hu
      exact Rx.of_ro hr'
    | i + 1, hl, hu => simp [f4] at hl
  have HBV := hide ((unhide HBX).trans ((unhide HBV2).mono (unhide HBX).size))
  have HBY : Hid (Below w.heap.size w (V2.setCell ⟨rb, ro + 4 + 3, none⟩ (.int .i64 (-1)))) := (unhide HBV).trans (fY.below (unhide HBV).size (fun k hk e => by
    have q := unhide HS5
    have q2 := unhide HRW
    omega))
  have HCF : Hid ((V2.setCell ⟨rb, ro + 4 + 3, none⟩ (.int .i64 (-1))).cell? ⟨fb, 0, none⟩ = some (.slice (some ⟨g, off, none⟩) 1 cap)) := (fY.cell (a := ⟨fb, 0, none⟩) (World.block_lt_of_cell? _ _ y0) (by show ¬ fb = rb; have := (unhide HRB).1; omega)).trans y0
  have z0 := World.block_lt_of_cell? _ _ y0
  have z5 := World.block_lt_of_cell? _ _ y5
  clear hSV hRV hrc fY HSX HAT0 HAT1 HU nq0 nq1 HSR
  go_wp2_with fail
  obtain ⟨Y, hY⟩ : ∃ Y, Hid (V2.setCell ⟨rb, ro + 4 + 3, none⟩ (.int .i64 (-1)) = Y) := ⟨_, hide rfl⟩
  try rw [show ro + 7 = ro + 4 + 3 from rfl]
  rw [unhide hY] at HPF HBY HCF
  have hcf := unhide HCF
  have zf := World.block_lt_of_cell? _ _ hcf
  rw [unhide hY]
  clear y0 y5 y7 y8 z0 z5 HCF
  have HENC := hide (encode_any (unhide HPF) ok_f4)
  refine (unhide HENC).mono ?_
  rintro e w7 h7
  rcases h7 with ⟨h1, _⟩ | ⟨-, bv, rfl, hown, hb7⟩
  · exact absurd sh_ck h1
  have HBw7 : Hid (Below w.heap.size w w7) := (unhide HBY).trans (hb7.mono (unhide HBY).size)
  have HRw7 : Hid (Rd w7 bv [80, 84, 70, 1, 1, 2, 0, 15, 2, 12, 4, 1]) := by unfold Hid; rw [← sh_enc]; exact Rd.of_own hown
  clear hown hb7 HENC hcf zf HPF
  have HD1 := hide (sh_dec1 w7)
  go_wp2_with fail
  refine (unhide HD1).mono ?_
  rintro e w8 ⟨hbn, rfl⟩
  have HBw8 : Hid (Below w.heap.size w w8) := ((unhide HBw7).alloc (unhide HBw7).size _).trans (hbn.mono ((unhide HBw7).alloc (unhide HBw7).size _).size)
  have HRw8 : Hid (Rd w8 bv [80, 84, 70, 1, 1, 2, 0, 15, 2, 12, 4, 1]) := ((unhide HRw7).below ((Below.refl _ _).alloc (Nat.le_refl _) _)).below hbn
  clear hbn HD1
  have HBw8x : Hid (Below w.heap.size w (w8.alloc (.cells #[.slice none 0 0] 25))) := (unhide HBw8).alloc (unhide HBw8).size _
  have HRw8x : Hid (Rd (w8.alloc (.cells #[.slice none 0 0] 25)) bv [80, 84, 70, 1, 1, 2, 0, 15, 2, 12, 4, 1]) := (unhide HRw8).below ((Below.refl _ _).alloc (Nat.le_refl _) _)
  have HD2 := hide (sh_dec2 (w8.alloc (.cells #[.slice none 0 0] 25)) (w8.heap.size + 1) (by rw [World.size_alloc]))
  go_wp2_with fail
  refine (unhide HD2).mono ?_
  rintro e w9 ⟨hbn, rfl⟩
  have HBw9 : Hid (Below w.heap.size w w9) := ((unhide HBw8x).alloc (unhide HBw8x).size _).trans (hbn.mono ((unhide HBw8x).alloc (unhide HBw8x).size _).size)
  have HRw9 : Hid (Rd w9 bv [80, 84, 70, 1, 1, 2, 0, 15, 2, 12, 4, 1]) := ((unhide HRw8x).below ((Below.refl _ _).alloc (Nat.le_refl _) _)).below hbn
  clear hbn HD2
  have HHOT := hide (hot_any (hot_mem (w9.alloc (.cells #[.slice none 0 0] 25)) (w9.heap.size + 1) (by rw [World.size_alloc])) (by simp [fh]) 5)
  rw [sh_hot] at HHOT
  go_wp2_with fail
  refine (unhide HHOT).mono ?_
  rintro e w10 ⟨hv, rfl, hgx⟩
  obtain ⟨hb, ho, hc, ehv, _, _, hl, hcc⟩ := hgx.1.full (by simp)
  subst ehv
  have HX9 : Hid (Below w9.heap.size w9 w10) := by
    have q : Below w9.heap.size w9 _ := ((((((Below.refl _ w9).alloc (Nat.le_refl _) (.cells #[.slice none 0 0] 25)).alloc (by simp only [World.size_alloc]; omega) (.cells #[.int .i64 5, .int .u16 0, .int .u16 0, .int .i64 0] 62)).alloc (by simp only [World.size_alloc]; omega) (.cells #[.int .i64 9, .int .u16 0, .int .u16 0, .int .i64 0] 62)).alloc (by simp only [World.size_alloc]; omega) (.cells #[.int .i64 5, .int .u16 0, .int .u16 0, .int .i64 0] 62)).alloc (by simp only [World.size_alloc]; omega) (.cells #[.slice (some ⟨w9.heap.size + 1, 0, none⟩) 1 1, .slice (some ⟨w9.heap.size + 1 + 1, 0, none⟩) 1 1, .slice (some ⟨w9.heap.size + 1 + 1 + 1, 0, none⟩) 1 1] 64))
    exact q.trans (hgx.2.1.mono q.size)
  have HBw10 : Hid (Below w.heap.size w w10) := (unhide HBw9).trans ((unhide HX9).mono (unhide HBw9).size)
  have HRw10 : Hid (Rd w10 bv [80, 84, 70, 1, 1, 2, 0, 15, 2, 12, 4, 1]) := (unhide HRw9).below (unhide HX9)
  have d0 : w10.cell? ⟨hb, ho, none⟩ = some (.int .i64 1) := hcc 0 (by simp)
  have d1 : w10.cell? ⟨hb, ho + 1, none⟩ = some (.int .i64 0) := hcc 1 (by simp)
  have d2 : w10.cell? ⟨hb, ho + 2, none⟩ = some (.int .i64 2) := hcc 2 (by simp)
  have l3 : ([1, 0, 2] : List Int).length = 3 := rfl
  rw [l3]
  have HSB : Hid (Calls Tryz.prog 9 #[bv, .slice (some ⟨w10.heap.size, 0, none⟩) 12 12] (w10.alloc (.cells #[.int .u8 80, .int .u8 84, .int .u8 70, .int .u8 1, .int .u8 1, .int .u8 2, .int .u8 0, .int .u8 15, .int .u8 2, .int .u8 12, .int .u8 4, .int .u8 1] 5)) fun e w' => e = .returned (.bool true) ∧ ∃ k, w' = (w10.alloc (.cells #[.int .u8 80, .int .u8 84, .int .u8 70, .int .u8 1, .int .u8 1, .int .u8 2, .int .u8 0, .int .u8 15, .int .u8 2, .int .u8 12, .int .u8 4, .int .u8 1] 5)).drewN k) :=
    same_any bv (.slice (some ⟨w10.heap.size, 0, none⟩) 12 12) [80, 84, 70, 1, 1, 2, 0, 15, 2, 12, 4, 1] _ ((unhide HRw10).below ((Below.refl _ _).alloc (Nat.le_refl _) _)) (new_rd w10 [80, 84, 70, 1, 1, 2, 0, 15, 2, 12, 4, 1] #[.int .u8 80, .int .u8 84, .int .u8 70, .int .u8 1, .int .u8 1, .int .u8 2, .int .u8 0, .int .u8 15, .int .u8 2, .int .u8 12, .int .u8 4, .int .u8 1] rfl (by decide))
  clear hcc hgx HHOT HX9
  go_wp2_with fail
  refine (unhide HSB).mono ?_
  rintro e w11 ⟨rfl, kk, e11⟩
  have HB11 : Hid (Below w.heap.size w w11) := by
    unfold Hid
    rw [e11]
    exact ((unhide HBw10).alloc (unhide HBw10).size _).trans (((Fr.drewN (S := fun _ => False) kk)).below ((unhide HBw10).alloc (unhide HBw10).size _).size (fun _ _ e => e))
  clear e11 HSB d0 d1 d2
  go_wp2_with fail
  go_ret
  exact ⟨rfl, unhide HB11⟩
end Go.Proofs.YtclcebdcdbcpjaaGreat
