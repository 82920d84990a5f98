/-
  LiftKinds' law.
-/
import Derived.Test.YtihnlkifmjgfjaaRg9
import Derived.Test.YtihnlkifmjgfjaaRg5
namespace Go.Proofs.Ytihnlkifmjgfjaa
open Go.RowKit
set_option linter.unusedVariables false
set_option linter.unusedSimpArgs false
theorem blk3c (w : World) (t : TypeId) (v0 v1 v2 : Value) {W : World} (h : Below (w.alloc (.cells #[v0, v1, v2] t)).heap.size (w.alloc (.cells #[v0, v1, v2] t)) W) :
    W.cell? ⟨w.heap.size, 0, none⟩ = some v0 ∧ W.cell? ⟨w.heap.size, 1, none⟩ = some v1 ∧ W.cell? ⟨w.heap.size, 2, none⟩ = some v2 ∧ w.heap.size < W.heap.size := by
  obtain ⟨c1, c2, c3⟩ := blk_cells ((h.block w.heap.size (by simp)).trans (heap_alloc_new w _))
  exact ⟨c1 0, c1 1, c1 2, c3⟩
/-- One block alone in a list. -/
theorem BksV.one {D : Nat → Prop} {w W : World} {b : Bk} {r : BkR} {t : TypeId} (h : BkP D W b r) (hW : Below (w.alloc (.cells #[.int .i64 r.pc, r.iv, r.nv] t)).heap.size (w.alloc (.cells #[.int .i64 r.pc, r.iv, r.nv] t)) W) (hD : D w.heap.size) : BksV D W [b] (.slice (some ⟨w.heap.size, 0, none⟩) 1 1) := by
  obtain ⟨c0, c1, c2, c3⟩ := blk3c w t (.int .i64 r.pc) r.iv r.nv hW
  refine ⟨[r], rfl, ⟨⟨rfl, _, 1, rfl, Nat.le_refl _, by unfold maxLen; omega, fun _ => ⟨w.heap.size, 0, rfl, c3, fun j hj => ?_⟩⟩, fun _ k e => by cases e; exact hD⟩, fun i u x hu hx => ?_⟩
  · obtain rfl | rfl | rfl : j = 0 ∨ j = 1 ∨ j = 2 := by simp at hj; omega
    · exact c0
    · exact c1
    · exact c2
  · have hi := (List.getElem?_eq_some_iff.1 hu).1
    obtain rfl : i = 0 := by simp at hi; omega
    cases hu
    cases hx
    exact h
set_option maxRecDepth 100000 in
set_option maxHeartbeats 6400000 in
theorem liftKindsLaw {w : World} {b : Bk} {r : BkR} (op : Int) (h : BkP (fun k => k < w.heap.size) w b r) (hN : b.ins.length ≤ 1073741824) (hX : b.nx.length ≤ 1073741824) (hM : ∀ x ∈ b.ins, x.args.length ≤ 1073741824 ∧ x.ex.length ≤ 1073741824 ∧ ∀ s ∈ x.ex, s.sl.length ≤ 1073741824) (h2 : inW b.ins ≤ 1073741824) :
    Calls Try.prog 3 #[.int .i64 op, bkV r] w fun e w' => e = .returned (.bool true) ∧ Below w.heap.size w w' := by
  obtain ⟨rp, iv, nv⟩ := r
  have hpc := h.1
  dsimp only at hpc
  subst hpc
  obtain ⟨ia, ic, rfl, hi1, hi2⟩ := NV.shape h.2.1
  obtain ⟨na, nc, rfl, hn1, hn2⟩ := h.2.2.1.shape
  have hb1 := bl_one w (.cells #[.int .i64 b.pc, .slice ia b.ins.length ic, .slice na b.nx.length nc] 25)
  obtain ⟨w1, hw1⟩ : ∃ w1, w1 = w.alloc (.cells #[.int .i64 b.pc, .slice ia b.ins.length ic, .slice na b.nx.length nc] 25) := ⟨_, rfl⟩
  rw [← hw1] at hb1
  have hb2 := bl_one w1 (.cells #[.int .i64 b.pc, .slice ia b.ins.length ic, .slice na b.nx.length nc] 25)
  obtain ⟨w2, hw2⟩ : ∃ w2, w2 = w1.alloc (.cells #[.int .i64 b.pc, .slice ia b.ins.length ic, .slice na b.nx.length nc] 25) := ⟨_, rfl⟩
  rw [← hw2] at hb2
  have hb3 := bl_one w2 (.cells #[.int .i64 0, .int .i64 0, .slice (some ⟨w1.heap.size, 0, none⟩) 1 1] 28)
  obtain ⟨X, hX3⟩ : ∃ X, X = w2.alloc (.cells #[.int .i64 0, .int .i64 0, .slice (some ⟨w1.heap.size, 0, none⟩) 1 1] 28) := ⟨_, rfl⟩
  rw [← hX3] at hb3
  have hbX := bl_past (bl_past hb1 hb2) hb3
  have hs1 : w1.heap.size = w.heap.size + 1 := by rw [hw1]; simp
  have hs2 : w2.heap.size = w.heap.size + 1 + 1 := by rw [hw2, World.size_alloc, hs1]
  have hs3 : X.heap.size = w.heap.size + 1 + 1 + 1 := by rw [hX3, World.size_alloc, hs2]
  have HBX := hide hbX
  have HBP : Hid (∀ W, Below X.heap.size X W → BkP (fun k => k < w.heap.size) W b ⟨b.pc, .slice ia b.ins.length ic, .slice na b.nx.length nc⟩) := fun W hW => BkP.mv.bel h (bl_past hbX hW)
  have HBK : Hid (∀ W, Below X.heap.size X W → BksV (fun k => k < X.heap.size) W [b] (.slice (some ⟨w1.heap.size, 0, none⟩) 1 1)) := fun W hW => BksV.one (t := 25) (r := ⟨b.pc, .slice ia b.ins.length ic, .slice na b.nx.length nc⟩) (BkP.mv _ _ _ _ _ _ _ (unhide HBP W hW) (Fr.refl (fun _ => False) W) (fun k _ e => ⟨fun q => q, by omega⟩)) (by
    rw [← hw2]
    exact bl_past hb3 hW) (by omega)
  have HCE : Hid (∀ W, Below X.heap.size X W → (W.cell? ⟨w.heap.size, 0, none⟩ = some (.int .i64 b.pc) ∧ W.cell? ⟨w.heap.size, 1, none⟩ = some (.slice ia b.ins.length ic) ∧ W.cell? ⟨w.heap.size, 2, none⟩ = some (.slice na b.nx.length nc) ∧ w.heap.size < W.heap.size) ∧ (W.cell? ⟨w.heap.size + 1 + 1, 0, none⟩ = some (.int .i64 0) ∧ W.cell? ⟨w.heap.size + 1 + 1, 1, none⟩ = some (.int .i64 0) ∧ W.cell? ⟨w.heap.size + 1 + 1, 2, none⟩ = some (.slice (some ⟨w.heap.size + 1, 0, none⟩) 1 1) ∧ w.heap.size + 1 + 1 < W.heap.size)) := fun W hW => by
    refine ⟨blk3c w 25 (.int .i64 b.pc) (.slice ia b.ins.length ic) (.slice na b.nx.length nc) (W := W) ?_, ?_⟩
    · rw [← hw1]; exact bl_past (bl_past hb2 hb3) hW
    · have q := blk3c w2 28 (.int .i64 0) (.int .i64 0) (.slice (some ⟨w1.heap.size, 0, none⟩) 1 1) (W := W) (by rw [← hX3]; exact hW)
      rw [hs2, hs1] at q
      exact q
  have HC4 := hide (handCode_any (w := X) (fn := 0) (regs := 0) (bl := [b]) (unhide HBK X (Below.refl _ _)) (by simp) (fun b' hb' => by
    rw [List.mem_singleton] at hb'
    subst hb'
    exact ⟨hN, hX, hM⟩) (by simp [bkW]; exact h2) (by simp [bkI]; exact hN))
  have hw1' : w.alloc (.cells #[.int .i64 b.pc, .slice ia b.ins.length ic, .slice na b.nx.length nc] 25) = w1 := hw1.symm
  have hw2' : w1.alloc (.cells #[.int .i64 b.pc, .slice ia b.ins.length ic, .slice na b.nx.length nc] 25) = w2 := hw2.symm
  rw [hs1] at HC4 HBK hX3
  have hX3' : w2.alloc (.cells #[.int .i64 0, .int .i64 0, .slice (some ⟨w.heap.size + 1, 0, none⟩) 1 1] 28) = X := hX3.symm
  unfold maxLen at hi2 hn2
  subst hw1
  subst hw2
  subst hX3
  clear hw1' hw2' hX3' h hb1 hb2 hb3 hbX hM
  unfold bkV
  go_enter Try.func3, Try.ntmps3
  go_wp2_with fail
  refine (unhide HC4).mono ?_
  obtain ⟨X, hXX⟩ : ∃ X, Hid (((w.alloc (.cells #[.int .i64 b.pc, .slice ia b.ins.length ic, .slice na b.nx.length nc] 25)).alloc (.cells #[.int .i64 b.pc, .slice ia b.ins.length ic, .slice na b.nx.length nc] 25)).alloc (.cells #[.int .i64 0, .int .i64 0, .slice (some ⟨w.heap.size + 1, 0, none⟩) 1 1] 28) = X) := ⟨_, hide rfl⟩
  rw [unhide hXX] at HBX HBP HBK HCE ⊢
  rintro e w4 ⟨T, rv, vs, rs, g, o, c, rfl, hD⟩
  have HD4 := hide hD
  have HB4 := hide hD.bw
  obtain ⟨d1, d2, zl⟩ := blk_cells hD.hs.box
  have z2 := d1 2
  simp at z2
  obtain ⟨_, _, ec, hc1, hc2⟩ := NV.shape hD.blocks
  cases ec
  obtain ⟨gb, go, gcap, ja, jc, ma, mc, eg, hgb, _, hbp, hj1, hj2, hj3, hj4, hcl⟩ := hD.blocks.at (i := 0) (x := b) rfl
  cases eg
  obtain ⟨k0, k1, k2⟩ := hcl w4 rfl
  simp only [Nat.zero_mul, Nat.add_zero] at k0 k1 k2
  have HC5 := hide (steps_any hbp)
  unfold bkV at HC5
  dsimp only at HC5
  unfold maxLen at hc2 hj2 hj4
  simp only [List.length_singleton] at hc1
  have i1 : (0 : Int) < (1 : Int) := by omega
  clear hD d1 d2 hcl hbp HC4
  go_wp2_with fail
  refine (unhide HC5).mono ?_
  rintro e w5 ⟨rfl, b5⟩
  have HB5 := hide (bl_past (unhide HB4) b5)
  have HB45 := hide b5
  obtain ⟨pb, hpb⟩ : ∃ pb, Hid (ptB op = pb) := ⟨_, hide rfl⟩
  have HC6 := hide (point_any w5 op)
  have HC7 := hide (refPoint_any w5 op)
  rw [unhide hpb] at HC6 HC7
  obtain ⟨st, hst⟩ : ∃ st, Hid (stF b.ins 0 = st) := ⟨_, hide rfl⟩
  have HC8 := hide (refSteps_any (unhide HBP w5 (unhide HB5)))
  unfold bkV at HC8
  dsimp only at HC8
  rw [unhide hst] at HC8 ⊢
  obtain ⟨⟨q0, q1, q2, q3⟩, ⟨o0, o1, o2, o3⟩⟩ := unhide HCE w5 (unhide HB5)
  have db : (pb == pb) = true := by simp
  have di : (st == st) = true := by simp
  clear b5 k0 k1 k2 z2 zl HC5 hgb
  go_wp2_with fail
  refine (unhide HC6).mono ?_
  rintro e w6 ⟨rfl, e6⟩
  subst e6
  go_wp2_with fail
  refine (unhide HC7).mono ?_
  rintro e w7 ⟨rfl, e7⟩
  subst e7
  go_wp2_with fail
  refine (unhide HC8).mono ?_
  rintro e w8 ⟨rfl, b8⟩
  have HB8 := hide (bl_past (unhide HB5) b8)
  obtain ⟨⟨r0, r1, r2, r3⟩, ⟨s0, s1, s2, s3⟩⟩ := unhide HCE w8 (unhide HB8)
  have HC9 := hide (kept_any (cf := 0) (cr := 0) ((unhide HD4).bel (bl_past (unhide HB45) b8)) (unhide HBK w8 (unhide HB8)))
  clear q0 q1 q2 q3 o0 o1 o2 o3 HC6 HC7 HC8 b8
  go_wp2_with fail
  refine (unhide HC9).mono ?_
  rintro e w9 ⟨rfl, b9⟩
  have HB9 := hide (bl_past (bl_past (unhide HBX) (unhide HB8)) b9)
  clear b9
  go_wp2_with fail
  go_ret
  exact ⟨rfl, unhide HB9⟩
end Go.Proofs.Ytihnlkifmjgfjaa
