/-
  The example, as the law shows it.
-/
import Derived.Test.YtpbdmbmafjkinaaDoorKb
import Derived.Test.YtpbdmbmafjkinaaDoorSn
namespace Go.Proofs.YtpbdmbmafjkinaaDoor
open Go.RowKit
set_option linter.unusedVariables false
set_option linter.unusedSimpArgs false
structure ShW (w : World) (cb nx a1 a2 a3 s1 t1 s2 t2 s3 t3 g0 g1 gb : Nat) (V : World) : Prop where
  bw : Below w.heap.size w V
  bx : V.heap[cb]? = some (.cells #[.int .i64 0, .int .i64 4, slv gb 2] 24)
  kn : KnW w.heap.size nx a1 a2 a3 s1 t1 s2 t2 s3 t3 g0 g1 V
  bl : V.heap[gb]? = some (.cells (flt enBk (knB (slv g0 5) (slv nx 1) g1)).toArray 47)
  tt : TT V
section
variable {w : World} {cb nx a1 a2 a3 s1 t1 s2 t2 s3 t3 g0 g1 gb : Nat} {V V' : World}
theorem ShW.on (h : ShW w cb nx a1 a2 a3 s1 t1 s2 t2 s3 t3 g0 g1 gb V) (f : Below V.heap.size V V') : ShW w cb nx a1 a2 a3 s1 t1 s2 t2 s3 t3 g0 g1 gb V' :=
  ⟨bl_past h.bw f, keepB f h.bx, h.kn.on f, keepB f h.bl, h.tt.below h.tt.1 f⟩
theorem ShW.box (h : ShW w cb nx a1 a2 a3 s1 t1 s2 t2 s3 t3 g0 g1 gb V) : cb < V.heap.size ∧ V.cell? ⟨cb, 0, none⟩ = some (.int .i64 0) ∧ V.cell? ⟨cb, 1, none⟩ = some (.int .i64 4) ∧ V.cell? ⟨cb, 2, none⟩ = some (.slice (some ⟨gb, 0, none⟩) 2 2) := by
  obtain ⟨q1, _, q3⟩ := blk_cells h.bx
  exact ⟨q3, q1 0, q1 1, q1 2⟩
theorem ShW.bks (h : ShW w cb nx a1 a2 a3 s1 t1 s2 t2 s3 t3 g0 g1 gb V) : BksV (fun _ => True) V (knL 0) (.slice (some ⟨gb, 0, none⟩) 2 2) := h.kn.bks (k := 0) (by omega) rfl h.bl
end
theorem kn_len : (knL 0).length ≤ 1048576 := by decide
/-- A row of numbers, as it is built in place. -/
theorem two_row (V : World) : NR V (.slice (some ⟨V.heap.size, 0, none⟩) 2 2) [0, 1] (V.alloc (.cells #[.int .i64 0, .int .i64 1] 3)) :=
  ⟨box1n V _, roB (t := 3) (xs := [.int .i64 0, .int .i64 1]) (heap_alloc_new V _) rfl (by decide), fun k hk => by cases hk; exact Nat.le_refl _⟩
theorem three_row (V : World) : NR V (.slice (some ⟨V.heap.size, 0, none⟩) 3 3) [0, 1, 2] (V.alloc (.cells #[.int .i64 0, .int .i64 1, .int .i64 2] 3)) :=
  ⟨box1n V _, roB (t := 3) (xs := [.int .i64 0, .int .i64 1, .int .i64 2]) (heap_alloc_new V _) rfl (by decide), fun k hk => by cases hk; exact Nat.le_refl _⟩
/-- A code is laid into a box of its own. -/
def cboxW (V : World) (v : Value) : World := (((V.alloc (.cells #[.int .i64 0, .int .i64 0, .slice none 0 0] 24)).setCell ⟨V.heap.size, 0, none⟩ (.int .i64 0)).setCell ⟨V.heap.size, 1, none⟩ (.int .i64 4)).setCell ⟨V.heap.size, 2, none⟩ v
theorem cbox (V : World) (v : Value) : Below V.heap.size V (cboxW V v) ∧ (cboxW V v).heap[V.heap.size]? = some (.cells #[.int .i64 0, .int .i64 4, v] 24) := by
  have hn := heap_alloc_new V (.cells #[.int .i64 0, .int .i64 0, .slice none 0 0] 24)
  have q := setCell_block (o := 2) (setCell_block (o := 1) (setCell_block (o := 0) hn (.int .i64 0)) (.int .i64 4)) v
  have f : Fr (fun k => k = V.heap.size) (V.alloc (.cells #[.int .i64 0, .int .i64 0, .slice none 0 0] 24)) (cboxW V v) := ((Fr.setCell (S := fun q => q = V.heap.size) (Fr.refl _ _) ⟨V.heap.size, 0, none⟩ (.inr rfl) _).setCell ⟨V.heap.size, 1, none⟩ (.inr rfl) _).setCell ⟨V.heap.size, 2, none⟩ (.inr rfl) _
  refine ⟨(box1n V _).trans (f.below (by simp) (fun k hk e => by omega)), ?_⟩
  unfold cboxW
  rw [q]
  rfl
set_option maxRecDepth 100000 in
set_option maxHeartbeats 12800000 in
theorem shown_any {w : World} (hT : TT w) : Calls Tryd.prog 13 #[] w fun e w' => e = .returned (.bool true) ∧ Below w.heap.size w w' := by
  have HK := hide (known_any w)
  have HT := hide hT
  clear hT
  go_enter Tryd.func13, Tryd.ntmps13
  go_wp2_with fail
  refine (unhide HK).mono ?_
  rintro e w1 ⟨nx, a1, a2, a3, s1, t1, s2, t2, s3, t3, g0, g1, gb, rfl, b1, hk, hb, hl⟩
  obtain ⟨X0, hX0⟩ : ∃ z, Hid (w1.alloc (.cells #[.int .i64 0, .int .i64 0, .slice none 0 0] 24) = z) := ⟨_, hide rfl⟩
  have hn := heap_alloc_new w1 (.cells #[.int .i64 0, .int .i64 0, .slice none 0 0] 24)
  rw [unhide hX0] at hn
  have x0 := (blk_cells hn).1 0
  have x1 := (blk_cells hn).1 1
  have x2 := (blk_cells hn).1 2
  have y0 := (blk_cells hn).2.1 0
  have y1 := (blk_cells hn).2.1 1
  have y2 := (blk_cells hn).2.1 2
  have yl := (blk_cells hn).2.2
  simp at x0 x1 x2
  obtain ⟨X, hX⟩ : ∃ z, Hid (((X0.setCell ⟨w1.heap.size, 0, none⟩ (.int .i64 0)).setCell ⟨w1.heap.size, 1, none⟩ (.int .i64 4)).setCell ⟨w1.heap.size, 2, none⟩ (.slice (some ⟨gb, 0, none⟩) 2 2) = z) := ⟨_, hide rfl⟩
  have hcb : Below w1.heap.size w1 X ∧ X.heap[w1.heap.size]? = some (.cells #[.int .i64 0, .int .i64 4, slv gb 2] 24) := by
    rw [← unhide hX, ← unhide hX0]
    exact cbox w1 (slv gb 2)
  have hX0' := unhide hX0
  have hX' := unhide hX
  clear hn
  unfold slv
  have HS : Hid (ShW w w1.heap.size nx a1 a2 a3 s1 t1 s2 t2 s3 t3 g0 g1 gb X) := ⟨bl_past b1 hcb.1, hcb.2, hk.on hcb.1, keepB hcb.1 hb, (unhide HT).below (unhide HT).1 (bl_past b1 hcb.1)⟩
  clear hcb hk hb b1 hl HK
  have HA := hide (after_any (fn := 0) (regs := 4) (unhide HS).bks kn_len (kn_ok 0 (by omega)) (unhide HS).tt 0 4)
  rw [kn_a4] at HA
  obtain ⟨xl, z0, z1, z2⟩ := (unhide HS).box
  go_wp2_with fail
  clear xl z0 z1 z2
  clear hX0' hX0 hX' hX x0 x1 x2 y0 y1 y2 yl
  refine (unhide HA).mono ?_
  rintro e V1 ⟨ya, yc, rfl, hy⟩
  rw [show ([0, 1] : List Nat).length = 2 from rfl] at hy ⊢
  obtain ⟨Z1, hZ⟩ : ∃ z, Hid (V1.alloc (.cells #[.int .i64 0, .int .i64 1] 3) = z) := ⟨_, hide rfl⟩
  have HSN : Hid (Calls Tryd.prog 10 #[.slice ya 2 yc, .slice (some ⟨V1.heap.size, 0, none⟩) 2 2] Z1 fun e w' => e = .returned (.bool true) ∧ Below Z1.heap.size Z1 w') := by
    rw [← unhide hZ]
    exact sameN_yes (l := [0, 1]) (hy.on (box1n _ _)).row (two_row V1).row (by decide)
  have HS2 : Hid (ShW w w1.heap.size nx a1 a2 a3 s1 t1 s2 t2 s3 t3 g0 g1 gb Z1) := by
    rw [← unhide hZ]
    exact ((unhide HS).on hy.bel).on (box1n _ _)
  have hZ' := unhide hZ
  clear hy HA HS
  have HS := HS2
  clear HS2
  go_wp2_with fail
  clear hZ' hZ
  refine (unhide HSN).mono ?_
  rintro e U1 ⟨rfl, b1⟩
  have HS2 := hide ((unhide HS).on b1)
  clear b1 HSN HS
  have HS := HS2
  clear HS2
  have HA := hide (after_any (fn := 0) (regs := 4) (unhide HS).bks kn_len (kn_ok 0 (by omega)) (unhide HS).tt 0 2)
  rw [kn_a2] at HA
  obtain ⟨xl, z0, z1, z2⟩ := (unhide HS).box
  go_wp2_with fail
  clear xl z0 z1 z2
  refine (unhide HA).mono ?_
  rintro e V2 ⟨ya, yc, rfl, hy⟩
  rw [show ([0, 1, 2] : List Nat).length = 3 from rfl] at hy ⊢
  obtain ⟨Z2, hZ⟩ : ∃ z, Hid (V2.alloc (.cells #[.int .i64 0, .int .i64 1, .int .i64 2] 3) = z) := ⟨_, hide rfl⟩
  have HSN : Hid (Calls Tryd.prog 10 #[.slice ya 3 yc, .slice (some ⟨V2.heap.size, 0, none⟩) 3 3] Z2 fun e w' => e = .returned (.bool true) ∧ Below Z2.heap.size Z2 w') := by
    rw [← unhide hZ]
    exact sameN_yes (l := [0, 1, 2]) (hy.on (box1n _ _)).row (three_row V2).row (by decide)
  have HS2 : Hid (ShW w w1.heap.size nx a1 a2 a3 s1 t1 s2 t2 s3 t3 g0 g1 gb Z2) := by
    rw [← unhide hZ]
    exact ((unhide HS).on hy.bel).on (box1n _ _)
  have hZ' := unhide hZ
  clear hy HA HS
  have HS := HS2
  clear HS2
  go_wp2_with fail
  clear hZ' hZ
  refine (unhide HSN).mono ?_
  rintro e U2 ⟨rfl, b2⟩
  have HS2 := hide ((unhide HS).on b2)
  clear b2 HSN HS
  have HS := HS2
  clear HS2
  have HA := hide (after_any (fn := 0) (regs := 4) (unhide HS).bks kn_len (kn_ok 0 (by omega)) (unhide HS).tt 0 1)
  rw [kn_a1] at HA
  obtain ⟨xl, z0, z1, z2⟩ := (unhide HS).box
  go_wp2_with fail
  clear xl z0 z1 z2
  refine (unhide HA).mono ?_
  rintro e V3 ⟨ya, yc, rfl, hy⟩
  rw [show ([0, 1] : List Nat).length = 2 from rfl] at hy ⊢
  obtain ⟨Z3, hZ⟩ : ∃ z, Hid (V3.alloc (.cells #[.int .i64 0, .int .i64 1] 3) = z) := ⟨_, hide rfl⟩
  have HSN : Hid (Calls Tryd.prog 10 #[.slice ya 2 yc, .slice (some ⟨V3.heap.size, 0, none⟩) 2 2] Z3 fun e w' => e = .returned (.bool true) ∧ Below Z3.heap.size Z3 w') := by
    rw [← unhide hZ]
    exact sameN_yes (l := [0, 1]) (hy.on (box1n _ _)).row (two_row V3).row (by decide)
  have HS2 : Hid (ShW w w1.heap.size nx a1 a2 a3 s1 t1 s2 t2 s3 t3 g0 g1 gb Z3) := by
    rw [← unhide hZ]
    exact ((unhide HS).on hy.bel).on (box1n _ _)
  have hZ' := unhide hZ
  clear hy HA HS
  have HS := HS2
  clear HS2
  go_wp2_with fail
  clear hZ' hZ
  refine (unhide HSN).mono ?_
  rintro e U3 ⟨rfl, b3⟩
  have HS2 := hide ((unhide HS).on b3)
  clear b3 HSN HS
  have HS := HS2
  clear HS2
  have HA := hide (after_any (fn := 0) (regs := 4) (unhide HS).bks kn_len (kn_ok 0 (by omega)) (unhide HS).tt 0 0)
  rw [kn_a0] at HA
  obtain ⟨xl, z0, z1, z2⟩ := (unhide HS).box
  go_wp2_with fail
  clear xl z0 z1 z2
  refine (unhide HA).mono ?_
  rintro e V4 ⟨ya, yc, rfl, hy⟩
  rw [show ([0, 1] : List Nat).length = 2 from rfl] at hy ⊢
  obtain ⟨Z4, hZ⟩ : ∃ z, Hid (V4.alloc (.cells #[.int .i64 0, .int .i64 1] 3) = z) := ⟨_, hide rfl⟩
  have HSN : Hid (Calls Tryd.prog 10 #[.slice ya 2 yc, .slice (some ⟨V4.heap.size, 0, none⟩) 2 2] Z4 fun e w' => e = .returned (.bool true) ∧ Below Z4.heap.size Z4 w') := by
    rw [← unhide hZ]
    exact sameN_yes (l := [0, 1]) (hy.on (box1n _ _)).row (two_row V4).row (by decide)
  have HS2 : Hid (ShW w w1.heap.size nx a1 a2 a3 s1 t1 s2 t2 s3 t3 g0 g1 gb Z4) := by
    rw [← unhide hZ]
    exact ((unhide HS).on hy.bel).on (box1n _ _)
  have hZ' := unhide hZ
  clear hy HA HS
  have HS := HS2
  clear HS2
  go_wp2_with fail
  clear hZ' hZ
  refine (unhide HSN).mono ?_
  rintro e U4 ⟨rfl, b4⟩
  have HS2 := hide ((unhide HS).on b4)
  clear b4 HSN HS
  have HS := HS2
  clear HS2
  have HA := hide (after_any (fn := 0) (regs := 4) (unhide HS).bks kn_len (kn_ok 0 (by omega)) (unhide HS).tt 0 5)
  rw [kn_a5] at HA
  obtain ⟨xl, z0, z1, z2⟩ := (unhide HS).box
  go_wp2_with fail
  clear xl z0 z1 z2
  refine (unhide HA).mono ?_
  rintro e V5 ⟨ya, yc, rfl, hy⟩
  rw [show ([] : List Nat).length = 0 from rfl] at hy ⊢
  have HS2 := hide ((unhide HS).on hy.bel)
  clear hy HA HS
  have HS := HS2
  clear HS2
  have HA := hide (after_any (fn := 0) (regs := 4) (unhide HS).bks kn_len (kn_ok 0 (by omega)) (unhide HS).tt 2 0)
  rw [kn_a20] at HA
  obtain ⟨xl, z0, z1, z2⟩ := (unhide HS).box
  go_wp2_with fail
  clear xl z0 z1 z2
  refine (unhide HA).mono ?_
  rintro e V6 ⟨ya, yc, rfl, hy⟩
  rw [show ([] : List Nat).length = 0 from rfl] at hy ⊢
  have HS2 := hide ((unhide HS).on hy.bel)
  clear hy HA HS
  have HS := HS2
  clear HS2
  have HK2 := hide (known_any V6)
  go_wp2_with fail
  refine (unhide HK2).mono ?_
  rintro e w5 ⟨nx', a1', a2', a3', s1', t1', s2', t2', s3', t3', g0', g1', gb', rfl, b5, hk, hb, hl⟩
  have HS6 := HS
  have HS2 := hide ((unhide HS).on b5)
  have HB5 := hide b5
  clear HS HK2
  have HS := HS2
  clear HS2
  obtain ⟨Y0, hY0⟩ : ∃ z, Hid (w5.alloc (.cells #[.int .i64 0, .int .i64 0, .slice none 0 0] 24) = z) := ⟨_, hide rfl⟩
  have hn := heap_alloc_new w5 (.cells #[.int .i64 0, .int .i64 0, .slice none 0 0] 24)
  rw [unhide hY0] at hn
  have x0 := (blk_cells hn).1 0
  have x1 := (blk_cells hn).1 1
  have x2 := (blk_cells hn).1 2
  have y0 := (blk_cells hn).2.1 0
  have y1 := (blk_cells hn).2.1 1
  have y2 := (blk_cells hn).2.1 2
  have yl := (blk_cells hn).2.2
  simp at x0 x1 x2
  obtain ⟨Y, hY⟩ : ∃ z, Hid (((Y0.setCell ⟨w5.heap.size, 0, none⟩ (.int .i64 0)).setCell ⟨w5.heap.size, 1, none⟩ (.int .i64 4)).setCell ⟨w5.heap.size, 2, none⟩ (.slice (some ⟨gb', 0, none⟩) 2 2) = z) := ⟨_, hide rfl⟩
  have hcb : Below w5.heap.size w5 Y ∧ Y.heap[w5.heap.size]? = some (.cells #[.int .i64 0, .int .i64 4, slv gb' 2] 24) := by
    rw [← unhide hY, ← unhide hY0]
    exact cbox w5 (slv gb' 2)
  have hY0' := unhide hY0
  have hY' := unhide hY
  clear hn
  unfold slv
  have HS2 := hide ((unhide HS).on hcb.1)
  clear HS
  have HS := HS2
  clear HS2
  have HKN := hide (hk.on hcb.1)
  have HBY := hide (bl_past (unhide HB5) hcb.1)
  have HGB := hide (keepB hcb.1 hb)
  have HCB := hide hcb.2
  have HLB := hide hl
  have hg5 : gb' < w5.heap.size := (Array.getElem?_eq_some_iff.1 hb).1
  have hbxl := (Array.getElem?_eq_some_iff.1 (unhide HS).bx).1
  clear hcb hk hb b5 hl
  go_wp2_with fail
  clear hY0' hY0 hY' hY x0 x1 x2 y0 y1 y2 yl
  obtain ⟨Y1, hY1⟩ : ∃ z, Hid (Y.drew = z) := ⟨_, hide rfl⟩
  have HSR : Hid ((fun V : World => V.heap[w5.heap.size]? = some (.cells #[.int .i64 0, .int .i64 4, .slice (some ⟨gb', 0, none⟩) 2 2] 24) ∧ V.heap[gb']? = some (.cells #[.int .i64 0, .slice (some ⟨g0', 0, none⟩) 5 5, .slice (some ⟨nx', 0, none⟩) 1 1, .int .i64 9, .slice (some ⟨g1', 0, none⟩) 2 2, .slice none 0 0] 47)) Y1) := by rw [← unhide hY1]; exact ⟨unhide HCB, unhide HGB⟩
  have HBY1 : Hid (Below V6.heap.size V6 Y1) := by rw [← unhide hY1]; exact (unhide HBY).trans ((bl_drew Y).mono (unhide HBY).size)
  have HKN1 : Hid (KnW V6.heap.size nx' a1' a2' a3' s1' t1' s2' t2' s3' t3' g0' g1' Y1) := by rw [← unhide hY1]; exact (unhide HKN).on (bl_drew Y)
  refine wp_region_later (S := (fun V : World => V.heap[w5.heap.size]? = some (.cells #[.int .i64 0, .int .i64 4, .slice (some ⟨gb', 0, none⟩) 2 2] 24) ∧ V.heap[gb']? = some (.cells #[.int .i64 0, .slice (some ⟨g0', 0, none⟩) 5 5, .slice (some ⟨nx', 0, none⟩) 1 1, .int .i64 9, .slice (some ⟨g1', 0, none⟩) 2 2, .slice none 0 0] 47))) (m := 10) (by kernel_rfl) ?_
  rw [unhide hY1]
  clear hY1 HBY HKN HCB HGB HS
  refine wpAnyL_takeU (i := 0) (oi := _) (v := .pointer (some ⟨w5.heap.size, 2, none⟩)) rfl (by kernel_rfl) (by kernel_rfl) (by kernel_rfl) (by decide) (fun _ _ _ h => h) (Or.inl ⟨by rfl, (by intro w' hSw; go_simp; first | done | rfl)⟩) (fun _ => unhide HSR) ?_
  go_simp
  refine wpAnyL_take (i := 1) (oi := _) (om := _) (v := .slice (some ⟨gb', 0, none⟩) 2 2) rfl rfl (by kernel_rfl) (by kernel_rfl) (by kernel_rfl) (by kernel_rfl) (by decide) (by kernel_rfl) (fun _ _ _ h => h) (Or.inl ⟨by rfl, (by intro w' hSw; have q1 := (blk_cells hSw.1).1 2; have q3 := (blk_cells hSw.1).2.2; simp at q1; go_simp; first | done | rfl)⟩) (unhide HSR) ?_
  go_simp
  refine wpAnyL_takeU (i := 2) (oi := _) (v := .pointer (some ⟨w5.heap.size, 2, none⟩)) rfl (by kernel_rfl) (by kernel_rfl) (by kernel_rfl) (by decide) (fun _ _ _ h => h) (Or.inl ⟨by rfl, (by intro w' hSw; go_simp; first | done | rfl)⟩) (fun _ => unhide HSR) ?_
  go_simp
  refine wpAnyL_take (i := 3) (oi := _) (om := _) (v := .slice (some ⟨gb', 0, none⟩) 2 2) rfl rfl (by kernel_rfl) (by kernel_rfl) (by kernel_rfl) (by kernel_rfl) (by decide) (by kernel_rfl) (fun _ _ _ h => h) (Or.inl ⟨by rfl, (by intro w' hSw; have q1 := (blk_cells hSw.1).1 2; have q3 := (blk_cells hSw.1).2.2; simp at q1; go_simp; first | done | rfl)⟩) (unhide HSR) ?_
  go_simp
  refine wpAnyL_takeU (i := 4) (oi := _) (v := .pointer (some ⟨gb', 0, none⟩)) rfl (by kernel_rfl) (by kernel_rfl) (by kernel_rfl) (by decide) (fun _ _ _ h => h) (Or.inl ⟨by rfl, (by intro w' hSw; go_simp; first | done | rfl)⟩) (fun _ => unhide HSR) ?_
  go_simp
  refine wpAnyL_takeU (i := 5) (oi := _) (v := .pointer (some ⟨gb', 1, none⟩)) rfl (by kernel_rfl) (by kernel_rfl) (by kernel_rfl) (by decide) (fun _ _ _ h => h) (Or.inl ⟨by rfl, (by intro w' hSw; go_simp; first | done | rfl)⟩) (fun _ => unhide HSR) ?_
  go_simp
  refine wpAnyL_take (i := 6) (oi := _) (om := _) (v := .slice (some ⟨g0', 0, none⟩) 5 5) rfl rfl (by kernel_rfl) (by kernel_rfl) (by kernel_rfl) (by kernel_rfl) (by decide) (by kernel_rfl) (fun _ _ _ h => h) (Or.inl ⟨by rfl, (by intro w' hSw; have q1 := (blk_cells hSw.2).1 1; have q3 := (blk_cells hSw.2).2.2; simp at q1; go_simp; first | done | rfl)⟩) (unhide HSR) ?_
  go_simp
  refine wpAnyL_takeU (i := 7) (oi := _) (v := .slice (some ⟨g0', 16, none⟩) 3 3) rfl (by kernel_rfl) (by kernel_rfl) (by kernel_rfl) (by decide) (fun _ _ _ h => h) (Or.inl ⟨by rfl, (by intro w' hSw; go_simp; first | done | rfl)⟩) (fun _ => unhide HSR) ?_
  go_simp
  refine wpAnyL_takeU (i := 8) (oi := _) (v := .pointer (some ⟨gb', 0, none⟩)) rfl (by kernel_rfl) (by kernel_rfl) (by kernel_rfl) (by decide) (fun _ _ _ h => h) (Or.inl ⟨by rfl, (by intro w' hSw; go_simp; first | done | rfl)⟩) (fun _ => unhide HSR) ?_
  go_simp
  refine wpAnyL_takeU (i := 9) (oi := _) (v := .pointer (some ⟨gb', 1, none⟩)) rfl (by kernel_rfl) (by kernel_rfl) (by kernel_rfl) (by decide) (fun _ _ _ h => h) (Or.inl ⟨by rfl, (by intro w' hSw; go_simp; first | done | rfl)⟩) (fun _ => unhide HSR) ?_
  go_simp
  have q1 := (blk_cells (unhide HSR).2).1 1
  have q2 := (blk_cells (unhide HSR).2).2.1 1
  have q3 := (blk_cells (unhide HSR).2).2.2
  simp at q1
  refine wpAnyL_one (i := 10) (o := _) (by kernel_rfl) rfl (fun K hK => ?_)
  go_simp
  refine hK _ _ (fun q => absurd q (by decide)) ?_
  clear hK K
  refine wpAnyL_done (by kernel_rfl) ?_ _
  clear q1 q2 q3
  obtain ⟨X2, hX2⟩ : ∃ z, Hid (Y1.setCell ⟨gb', 1, none⟩ (.slice (some ⟨g0', 16, none⟩) 3 3) = z) := ⟨_, hide rfl⟩
  have f2 : Fr (fun k => k = gb') Y1 X2 := by rw [← unhide hX2]; exact Fr.setCell (S := fun q => q = gb') (Fr.refl _ Y1) ⟨gb', 1, none⟩ (.inr rfl) _
  have hg2 : X2.heap[gb']? = some (.cells (flt enBk (knB (.slice (some ⟨g0', 16, none⟩) 3 3) (slv nx' 1) g1')).toArray 47) := by
    have q := setCell_block (o := 1) (unhide HSR).2 (.slice (some ⟨g0', 16, none⟩) 3 3)
    rw [unhide hX2] at q
    rw [q]
    rfl
  have HX2 : Hid (Below V6.heap.size V6 X2) := (unhide HBY1).trans (f2.below (unhide HBY1).size (fun k hk e => by have := (unhide HLB).1; omega))
  have hl2 := unhide HLB
  have hk2 := (unhide HKN1).fr f2 (.inr (by omega))
  have HWT := hide (hk2.bks (k := 2) (xa := some ⟨g0', 16, none⟩) (by omega) rfl hg2)
  have hb2 : X2.heap[w5.heap.size]? = some (.cells #[.int .i64 0, .int .i64 4, .slice (some ⟨gb', 0, none⟩) 2 2] 24) := (f2.block _ (Array.getElem?_eq_some_iff.1 (unhide HSR).1).1 (by omega)).trans (unhide HSR).1
  have HB2 := hide hb2
  have HS := hide ((unhide HS6).on (unhide HX2))
  rw [unhide hX2]
  clear hX2 f2 hg2 hl2 hk2 hb2 HSR HBY1 HKN1 HLB
  go_wp2_with fail
  obtain ⟨Y2, hY2⟩ : ∃ z, Hid (X2.drew = z) := ⟨_, hide rfl⟩
  have bY2 : Below X2.heap.size X2 Y2 := by rw [← unhide hY2]; exact bl_drew X2
  have HS0 : Hid (Below X2.heap.size X2 Y2) := bY2
  have HSY := hide ((unhide HS).on bY2)
  have HC1 : Hid (∀ V, Below X2.heap.size X2 V → w1.heap.size < V.heap.size ∧ V.cell? ⟨w1.heap.size, 0, none⟩ = some (.int .i64 0) ∧ V.cell? ⟨w1.heap.size, 1, none⟩ = some (.int .i64 4) ∧ V.cell? ⟨w1.heap.size, 2, none⟩ = some (.slice (some ⟨gb, 0, none⟩) 2 2)) := fun V hV => ((unhide HS).on hV).box
  have HC2 : Hid (∀ V, Below X2.heap.size X2 V → w5.heap.size < V.heap.size ∧ V.cell? ⟨w5.heap.size, 0, none⟩ = some (.int .i64 0) ∧ V.cell? ⟨w5.heap.size, 1, none⟩ = some (.int .i64 4) ∧ V.cell? ⟨w5.heap.size, 2, none⟩ = some (.slice (some ⟨gb', 0, none⟩) 2 2)) := fun V hV => by
    obtain ⟨q1, _, q3⟩ := blk_cells (keepB hV (unhide HB2))
    exact ⟨q3, q1 0, q1 1, q1 2⟩
  refine wp_region_held_drew (S := fun V => Below X2.heap.size X2 V) (by kernel_rfl) (by rw [unhide hY2]; exact unhide HS0) (fun hHeld => ?_)
  clear hHeld
  rw [unhide hY2]
  clear hY2 bY2
  refine wpAnyH_take (i := 0) (oi := _) (v := .agg #[.int .i64 0, .int .i64 4, .slice (some ⟨gb, 0, none⟩) 2 2]) rfl (by kernel_rfl) (by kernel_rfl) (by kernel_rfl) (fun _ _ _ h => h) (Or.inl ⟨by rfl, (by intro w' hSw; obtain ⟨q0, q1, q2, q3⟩ := unhide HC1 w' hSw; go_simp; first | done | rfl)⟩) (unhide HS0) ?_
  go_simp
  refine wpAnyH_take (i := 2) (oi := _) (v := .agg #[.int .i64 0, .int .i64 4, .slice (some ⟨gb', 0, none⟩) 2 2]) rfl (by kernel_rfl) (by kernel_rfl) (by kernel_rfl) (fun _ _ _ h => h) (Or.inl ⟨by rfl, (by intro w' hSw; obtain ⟨q0, q1, q2, q3⟩ := unhide HC2 w' hSw; go_simp; first | done | rfl)⟩) (unhide HS0) ?_
  go_simp
  have HRN := hide (run_any (w := Y2) (fn := 0) (regs := 4) (unhide HSY).bks (kn_ok 0 (by omega)) kn_len)
  rw [kn_kep] at HRN
  refine wpAnyH_ready (rs := [1]) (by kernel_rfl) (by simp) ?_
  refine AllReadyH.cons (o := _) rfl (fun K hK => ?_) AllReadyH.nil
  go_simp
  refine (unhide HRN).mono ?_
  rintro e Y3 hA
  obtain ⟨aw, cw, Tw, rfl, q1, q2, b3, ow⟩ := hA.at
  have HS3 : Hid (Below X2.heap.size X2 Y3) := (unhide HS0).trans (b3.mono (unhide HS0).size)
  have HBW := hide (BksV.of_ow ow)
  rw [show (knL 2).length = 2 from rfl] at HBW q1 ⊢
  refine hK.out _ _ (unhide HS3) (fun _ => ?_)
  clear hK K q1 q2 b3 ow hA HRN HS0 HSY
  go_simp
  have HSR2 := hide (sameR_yes (w := Y3) (fn := 0) (regs := 4) (unhide HBW) (BksV.mv.bel (unhide HWT) (unhide HS3)) (by decide) (fun b hb => by have q := kn_ok 2 (by omega) b hb; exact ⟨q.1, q.2.1, q.2.2⟩))
  refine wpAnyH_ready (rs := [3]) (by kernel_rfl) (by simp) ?_
  refine AllReadyH.cons (o := _) rfl (fun K hK => ?_) AllReadyH.nil
  go_simp
  refine (unhide HSR2).mono ?_
  rintro e Y4 ⟨rfl, b4⟩
  have HS4 : Hid (Below X2.heap.size X2 Y4) := (unhide HS3).trans (b4.mono (unhide HS3).size)
  refine hK.out _ _ (unhide HS4) (fun _ => ?_)
  clear hK K b4
  go_simp
  refine wpAnyH_take (i := 4) (oi := _) (v := .bool true) rfl (by kernel_rfl) (by kernel_rfl) (by kernel_rfl) (fun _ _ _ h => h) (Or.inl ⟨by rfl, (by intro w' hSw; go_simp; first | done | rfl)⟩) (unhide HS4) ?_
  go_simp
  refine wpAnyH_done (by kernel_rfl) ?_ _
  go_wp2_with fail
  go_ret
  exact ⟨rfl, bl_past (unhide HS).bw (unhide HS4)⟩
end Go.Proofs.YtpbdmbmafjkinaaDoor
