/-
  What was handed in is as it was.
-/
import Derived.Test.YtpbdpejhjdoleaaRg11
namespace Go.Proofs.Ytpbdpejhjdoleaa
open Go.RowKit
set_option linter.unusedVariables false
set_option linter.unusedSimpArgs false
section
variable {w0 w w' : World} {p : Nat} {fn regs : Int} {bl : List Bk} {T : Nat → Nat} {rv : Nat → Value} {vs : Nat → List Value} {rs : List BkR} {g o c : Nat}
theorem HD.bel (h : HD w0 p fn regs bl T rv vs rs g o c w) (f : Below w.heap.size w w') : HD w0 p fn regs bl (tl T w.heap.size 0) rv vs rs g o c w' :=
  ⟨h.hs.below f 0, h.r6, h.ln, fun j b r hb hr => BkP.mv _ _ _ _ _ _ _ (h.el j b r hb hr) (Fr.of_below (S := fun _ => False) f) (fun k hk e => ⟨fun q => q, by rw [tl_lt _ _ hk]; exact e⟩), bl_past h.bw f, h.c4, h.c5, (by obtain ⟨X, hX, hP⟩ := h.xs; exact ⟨X, hX, hP.mv (Fr.of_below (S := fun _ => False) f) (fun k hk e _ => ⟨fun q => q, by rw [tl_lt _ _ hk]; exact e⟩)⟩), fun k hk => by rw [tl_lt _ _ (Nat.lt_of_lt_of_le hk h.bw.size)]; exact h.tk k hk⟩
/-- The blocks that were handed in can be read. -/
theorem HD.blocks (h : HD w0 p fn regs bl T rv vs rs g o c w) : BksV (fun _ => True) w bl (.slice (some ⟨g, o, none⟩) bl.length c) := by
  have q := h.hs.brow
  rw [h.r6, List.length_append, mks_length, h.ln] at q
  have q2 := q.upto rfl (k := bl.length) (by omega)
  rw [flt_take zBk, List.take_append_of_le_length (by rw [h.ln]; exact Nat.le_refl _), List.take_of_length_le (by rw [h.ln]; exact Nat.le_refl _)] at q2
  exact ⟨rs, h.ln, Rd.of_ro q2 (fun _ _ => trivial), fun i b r hb hr => BkP.mv _ _ _ _ _ _ _ (h.el i b r hb hr) (Fr.refl (fun _ => False) w) (fun k _ _ => ⟨fun q => q, trivial⟩)⟩
end
set_option maxRecDepth 100000 in
set_option maxHeartbeats 6400000 in
theorem kept_any {w0 w : World} {p : Nat} {fn regs cf cr : Int} {bl : List Bk} {T : Nat → Nat} {rv : Nat → Value} {vs : Nat → List Value} {rs : List BkR} {g o c : Nat} {D : Nat → Prop} {blv : Value} (h : HD w0 p fn regs bl T rv vs rs g o c w) (hl : BksV D w bl blv) :
    Calls Try.prog 12 #[.pointer (some ⟨p, 0, none⟩), .agg #[.int .i64 cf, .int .i64 cr, blv]] w fun e w' => e = .returned (.bool true) ∧ Below w.heap.size w w' := by
  obtain ⟨a, acap, rfl, ha1, ha2⟩ := NV.shape hl
  obtain ⟨_, gcap, eg, hg1, hg2⟩ := NV.shape h.blocks
  cases eg
  have hg3 : bl.length + 16 ≤ c := by
    have q := h.hs.brow
    rw [h.r6, List.length_append, mks_length, h.ln] at q
    obtain ⟨_, _, e, q1, _⟩ := q.shape
    cases e
    exact q1
  have hbx := box1n w (.cells #[.int .i64 cf, .int .i64 cr, .slice a bl.length acap] 24)
  have hbk := heap_alloc_new w (.cells #[.int .i64 cf, .int .i64 cr, .slice a bl.length acap] 24)
  have HC11 := hide (fun W (hW : Below (w.alloc (.cells #[.int .i64 cf, .int .i64 cr, .slice a bl.length acap] 24)).heap.size (w.alloc (.cells #[.int .i64 cf, .int .i64 cr, .slice a bl.length acap] 24)) W) => marked_any (h.bel (bl_past hbx hW)))
  have HC12 := hide (fun W (hW : Below (w.alloc (.cells #[.int .i64 cf, .int .i64 cr, .slice a bl.length acap] 24)).heap.size (w.alloc (.cells #[.int .i64 cf, .int .i64 cr, .slice a bl.length acap] 24)) W) => sameBlocks_any (h.bel (bl_past hbx hW)).blocks (BksV.mv.bel hl (bl_past hbx hW)))
  have z7 := h.hs.cell.2.2.2.2.1
  have zl := h.hs.lt
  rw [h.r6] at z7
  have hS0 : ∀ W, Below (w.alloc (.cells #[.int .i64 cf, .int .i64 cr, .slice a bl.length acap] 24)).heap.size (w.alloc (.cells #[.int .i64 cf, .int .i64 cr, .slice a bl.length acap] 24)) W → W.cell? ⟨p, 7, none⟩ = some (.slice (some ⟨g, o, none⟩) (bl.length + 16) c) ∧ W.cell? ⟨w.heap.size, 2, none⟩ = some (.slice a bl.length acap) := fun W hW =>
    ⟨((bl_past hbx hW).cell (p := ⟨p, 7, none⟩) zl).trans z7, (blk_cells ((hW.block w.heap.size (by simp)).trans hbk)).1 2⟩
  have HS0 := hide hS0
  have HBX := hide hbx
  obtain ⟨L, hL⟩ : ∃ L, Hid (bl.length = L) := ⟨_, hide rfl⟩
  rw [unhide hL] at ha1 hg1 hg3 HC11 HC12 HS0 HBX ⊢
  unfold maxLen at ha2 hg2
  have n0 : (0 : Int) ≤ (L : Int) := by omega
  have n1 : (L : Int) ≤ (c : Int) := by omega
  clear h hl hbx hbk z7 hS0 zl
  go_enter Try.func12, Try.ntmps12
  go_wp2_with fail
  refine wp_region_held_drew (S := (fun W => W.cell? ⟨p, 7, none⟩ = some (.slice (some ⟨g, o, none⟩) (L + 16) c) ∧ W.cell? ⟨w.heap.size, 2, none⟩ = some (.slice a L acap))) (by kernel_rfl) (unhide HS0 _ (bl_drew _)) (fun hHeld => ?_)
  clear hHeld
  refine wpAnyH_take (i := 0) (oi := _) (v := .pointer (some ⟨p, 0, none⟩)) rfl (by kernel_rfl) (by kernel_rfl) (by kernel_rfl) (fun _ _ _ h => h) (Or.inl ⟨by rfl, (by intro w' hSw; obtain ⟨s0, s1⟩ := hSw; go_simp)⟩) (unhide HS0 _ (bl_drew _)) ?_
  go_simp
  refine wpAnyH_ready (rs := [1]) (by kernel_rfl) (by simp) ?_
  refine AllReadyH.cons (o := _) rfl (fun K hK => ?_) AllReadyH.nil
  go_simp
  refine (unhide HC11 _ (bl_drew _)).mono ?_
  rintro e w3 ⟨rfl, b3⟩
  have HB3 := hide (bl_past (bl_drew _) b3)
  clear b3
  go_simp
  refine hK.out _ _ (unhide HS0 _ (unhide HB3)) (fun _ => ?_)
  clear hK K
  go_simp
  refine wpAnyH_take (i := 2) (oi := _) (v := .bool true) rfl (by kernel_rfl) (by kernel_rfl) (by kernel_rfl) (fun _ _ _ h => h) (Or.inl ⟨by rfl, (by intro w' hSw; obtain ⟨s0, s1⟩ := hSw; go_simp)⟩) (unhide HS0 _ (unhide HB3)) ?_
  go_simp
  refine wpAnyH_take (i := 3) (oi := _) (v := .pointer (some ⟨p, 0, none⟩)) rfl (by kernel_rfl) (by kernel_rfl) (by kernel_rfl) (fun _ _ _ h => h) (Or.inl ⟨by rfl, (by intro w' hSw; obtain ⟨s0, s1⟩ := hSw; go_simp)⟩) (unhide HS0 _ (unhide HB3)) ?_
  go_simp
  refine wpAnyH_take (i := 4) (oi := _) (v := .pointer (some ⟨p, 0, none⟩)) rfl (by kernel_rfl) (by kernel_rfl) (by kernel_rfl) (fun _ _ _ h => h) (Or.inl ⟨by rfl, (by intro w' hSw; obtain ⟨s0, s1⟩ := hSw; go_simp)⟩) (unhide HS0 _ (unhide HB3)) ?_
  go_simp
  refine wpAnyH_take (i := 5) (oi := _) (v := .pointer (some ⟨p, 7, none⟩)) rfl (by kernel_rfl) (by kernel_rfl) (by kernel_rfl) (fun _ _ _ h => h) (Or.inl ⟨by rfl, (by intro w' hSw; obtain ⟨s0, s1⟩ := hSw; go_simp)⟩) (unhide HS0 _ (unhide HB3)) ?_
  go_simp
  refine wpAnyH_take (i := 6) (oi := _) (v := .slice (some ⟨g, o, none⟩) (L + 16) c) rfl (by kernel_rfl) (by kernel_rfl) (by kernel_rfl) (fun _ _ _ h => h) (Or.inl ⟨by rfl, (by intro w' hSw; obtain ⟨s0, s1⟩ := hSw; go_simp)⟩) (unhide HS0 _ (unhide HB3)) ?_
  go_simp
  refine wpAnyH_take (i := 7) (oi := _) (v := .pointer (some ⟨w.heap.size, 2, none⟩)) rfl (by kernel_rfl) (by kernel_rfl) (by kernel_rfl) (fun _ _ _ h => h) (Or.inl ⟨by rfl, (by intro w' hSw; obtain ⟨s0, s1⟩ := hSw; go_simp)⟩) (unhide HS0 _ (unhide HB3)) ?_
  go_simp
  refine wpAnyH_take (i := 8) (oi := _) (v := .slice a L acap) rfl (by kernel_rfl) (by kernel_rfl) (by kernel_rfl) (fun _ _ _ h => h) (Or.inl ⟨by rfl, (by intro w' hSw; obtain ⟨s0, s1⟩ := hSw; go_simp)⟩) (unhide HS0 _ (unhide HB3)) ?_
  go_simp
  refine wpAnyH_take (i := 9) (oi := _) (v := .int .i64 (L : Int)) rfl (by kernel_rfl) (by kernel_rfl) (by kernel_rfl) (fun _ _ _ h => h) (Or.inl ⟨by rfl, (by intro w' hSw; obtain ⟨s0, s1⟩ := hSw; go_simp)⟩) (unhide HS0 _ (unhide HB3)) ?_
  go_simp
  refine wpAnyH_take (i := 10) (oi := _) (v := .slice (some ⟨g, o, none⟩) L c) rfl (by kernel_rfl) (by kernel_rfl) (by kernel_rfl) (fun _ _ _ h => h) (Or.inl ⟨by rfl, (by intro w' hSw; obtain ⟨s0, s1⟩ := hSw; go_simp)⟩) (unhide HS0 _ (unhide HB3)) ?_
  go_simp
  refine wpAnyH_take (i := 11) (oi := _) (v := .pointer (some ⟨w.heap.size, 2, none⟩)) rfl (by kernel_rfl) (by kernel_rfl) (by kernel_rfl) (fun _ _ _ h => h) (Or.inl ⟨by rfl, (by intro w' hSw; obtain ⟨s0, s1⟩ := hSw; go_simp)⟩) (unhide HS0 _ (unhide HB3)) ?_
  go_simp
  refine wpAnyH_take (i := 12) (oi := _) (v := .slice a L acap) rfl (by kernel_rfl) (by kernel_rfl) (by kernel_rfl) (fun _ _ _ h => h) (Or.inl ⟨by rfl, (by intro w' hSw; obtain ⟨s0, s1⟩ := hSw; go_simp)⟩) (unhide HS0 _ (unhide HB3)) ?_
  go_simp
  refine wpAnyH_ready (rs := [13]) (by kernel_rfl) (by simp) ?_
  refine AllReadyH.cons (o := _) rfl (fun K hK => ?_) AllReadyH.nil
  go_simp
  refine (unhide HC12 _ (unhide HB3)).mono ?_
  rintro e w4 ⟨rfl, b4⟩
  have HB4 := hide (bl_past (unhide HB3) b4)
  clear b4
  go_simp
  refine hK.out _ _ (unhide HS0 _ (unhide HB4)) (fun _ => ?_)
  clear hK K
  go_simp
  refine wpAnyH_take (i := 14) (oi := _) (v := .bool true) rfl (by kernel_rfl) (by kernel_rfl) (by kernel_rfl) (fun _ _ _ h => h) (Or.inl ⟨by rfl, (by intro w' hSw; obtain ⟨s0, s1⟩ := hSw; go_simp)⟩) (unhide HS0 _ (unhide HB4)) ?_
  go_simp
  refine wpAnyH_take (i := 15) (oi := _) (v := .bool true) rfl (by kernel_rfl) (by kernel_rfl) (by kernel_rfl) (fun _ _ _ h => h) (Or.inl ⟨by rfl, (by intro w' hSw; obtain ⟨s0, s1⟩ := hSw; go_simp)⟩) (unhide HS0 _ (unhide HB4)) ?_
  go_simp
  refine wpAnyH_done (by kernel_rfl) ?_ _
  go_wp2_with fail
  go_ret
  exact ⟨rfl, bl_past (unhide HBX) (unhide HB4)⟩
end Go.Proofs.Ytpbdpejhjdoleaa
