/-
  LiveRun's law.
-/
import Derived.Test.YtiamoinhmkhaoaaRgB
import Derived.Test.YtiamoinhmkhaoaaRgC
import Derived.Test.YtiamoinhmkhaoaaLo
import Derived.Test.YtiamoinhmkhaoaaLm
namespace Go.Proofs.Ytiamoinhmkhaoaa
open Go.RowKit
set_option linter.unusedVariables false
set_option linter.unusedSimpArgs false
theorem neqO0 (p : Op) : ∀ w : World, (binOp .neq 85 (opV p) (opV p)).run Try.prog w = .ok (.bool false) w := fun w => by
  unfold opV
  go_simp
set_option maxRecDepth 100000 in
set_option maxHeartbeats 3200000 in
theorem sameOpnds_any {w : World} {D D' : Nat → Prop} {av bv : Value} {l : List Op} (ha : OpV D w l av) (hb : OpV D' w l bv) :
    Calls Try.prog 59 #[av, bv] w fun e w' => e = .returned (.bool true) ∧ ∃ m, w' = w.drewN m := by
  obtain ⟨a, acap, rfl, ha1, ha2⟩ := ha.1.shape
  obtain ⟨b, bcap, rfl, hb1, hb2⟩ := hb.1.shape
  have HA := hide ha
  have HB := hide hb
  unfold maxLen at ha2 hb2
  clear ha hb
  obtain ⟨L, hL⟩ : ∃ L, Hid (l.length = L) := ⟨_, hide rfl⟩
  rw [unhide hL] at ha1 hb1 HA HB ⊢
  have d0 : (((L : Nat) : Int) != (L : Int)) = false := by simp
  go_enter Try.func59, Try.ntmps59
  go_wp2_with fail
  go_loopg [5] L (fun gg t5 wr => ∃ (i m : Nat), Hid (i + gg = L) ∧ t5 = .int .i64 (i : Int) ∧ Hid (wr = w.drewN m))
  case atStart => exact ⟨0, 0, by unfold Hid; omega, rfl, hide rfl⟩
  case round =>
    obtain ⟨i, m, hi, rfl, hw⟩ := hrel
    have hw' := unhide hw
    subst hw'
    by_cases hlt : i < L
    · obtain ⟨o, ho⟩ : ∃ o, l[i]? = some o := ⟨_, List.getElem?_eq_getElem (by rw [unhide hL]; exact hlt)⟩
      have HA' := HA
      have HB' := HB
      rw [← unhide hL] at HA' HB'
      obtain ⟨b1, f1, c1, e1, hb1', _, x0, x1⟩ := (unhide HA').at ho
      obtain ⟨b2, f2, c2, e2, hb2', _, y0, y1⟩ := (unhide HB').at ho
      rw [unhide hL] at e1 e2
      cases e1
      cases e2
      have i0 : (0 : Int) ≤ (i : Int) := by omega
      have i1 : (i : Int) < (L : Int) := by omega
      have d1 := neqO0 o
      unfold opV at d1
      clear HA' HB' ho
      go_wp2_with fail
      go_quiet (fail)
      have HN := hide (World.drewN_drewN w m nq)
      obtain ⟨X, hX⟩ : ∃ X, Hid ((w.drewN m).drewN nq = X) := ⟨_, hide rfl⟩
      have HXX : Hid (X = w.drewN (m + nq)) := by rw [← unhide hX]; exact unhide HN
      rw [unhide hX]
      clear hX HN x0 x1 y0 y1 hb1' hb2'
      go_wp2_with fail
      go_roundg (gk - 1)
      case measure => have := unhide hi; omega
      case rel => exact ⟨i + 1, _, by have := unhide hi; unfold Hid; omega, by go_num, HXX⟩
    · have hiL : i = L := by have := unhide hi; omega
      subst hiL
      go_wp2_with fail
      go_ret
      exact ⟨rfl, m, rfl⟩
set_option maxRecDepth 100000 in
set_option maxHeartbeats 3200000 in
theorem sameShapes_any {w : World} {D D' : Nat → Prop} {av bv : Value} {l : List Sh} (ha : ShsV D w l av) (hb : ShsV D' w l bv) :
    Calls Try.prog 60 #[av, bv] w fun e w' => e = .returned (.bool true) ∧ ∃ m, w' = w.drewN m := by
  obtain ⟨a, acap, rfl, ha1, ha2⟩ := NV.shape ha
  obtain ⟨b, bcap, rfl, hb1, hb2⟩ := NV.shape hb
  have HA := hide ha
  have HB := hide hb
  unfold maxLen at ha2 hb2
  clear ha hb
  obtain ⟨L, hL⟩ : ∃ L, Hid (l.length = L) := ⟨_, hide rfl⟩
  rw [unhide hL] at ha1 hb1 HA HB ⊢
  have d0 : (((L : Nat) : Int) != (L : Int)) = false := by simp
  go_enter Try.func60, Try.ntmps60
  go_wp2_with fail
  go_loopg [5] L (fun gg t5 wr => ∃ (i m : Nat), Hid (i + gg = L) ∧ t5 = .int .i64 (i : Int) ∧ Hid (wr = w.drewN m))
  case atStart => exact ⟨0, 0, by unfold Hid; omega, rfl, hide rfl⟩
  case round =>
    obtain ⟨i, m, hi, rfl, hw⟩ := hrel
    have hw' := unhide hw
    subst hw'
    by_cases hlt : i < L
    · obtain ⟨s, hs⟩ : ∃ s, l[i]? = some s := ⟨_, List.getElem?_eq_getElem (by rw [unhide hL]; exact hlt)⟩
      have HA' := HA
      have HB' := HB
      rw [← unhide hL] at HA' HB'
      obtain ⟨b1, f1, c1, sa, sc, e1, hb1', _, p1, p2, p3, hx⟩ := (unhide HA').at hs
      obtain ⟨b2, f2, c2, ta, tc, e2, hb2', _, r1, r2, r3, hy⟩ := (unhide HB').at hs
      rw [unhide hL] at e1 e2
      cases e1
      cases e2
      obtain ⟨x0, x1, x2⟩ := hx w rfl
      obtain ⟨y0, y1, y2⟩ := hy w rfl
      have i0 : (0 : Int) ≤ (i : Int) := by omega
      have i1 : (i : Int) < (L : Int) := by omega
      have d1 : (s.fn != s.fn) = false := by simp
      have d2 : (s.pc != s.pc) = false := by simp
      have HC := hide (fun n => sameOpnds_any (w := w.drewN n) (D := D) (D' := D') (OpV.mv D D _ _ _ _ _ p1 (Fr.drewN (S := fun _ => False) n) (fun _ _ e => ⟨fun q => q, e⟩)) (OpV.mv D' D' _ _ _ _ _ r1 (Fr.drewN (S := fun _ => False) n) (fun _ _ e => ⟨fun q => q, e⟩)))
      have HC' : Hid (∀ n, Calls Try.prog 59 #[.slice sa s.sl.length sc, .slice ta s.sl.length tc] (w.drewN (m + n)) fun e w' => e = .returned (.bool true) ∧ ∃ k, w' = w.drewN (m + k)) := fun n => (unhide HC (m + n)).mono fun _ _ ⟨he, k, hk⟩ => ⟨he, n + k, by rw [hk, World.drewN_drewN, Nat.add_assoc]⟩
      unfold maxLen at p3 r3
      clear HA' HB' hs hx hy p1 r1 HC
      go_wp2_with fail
      go_quiet (first | (go_at_call 59; exact unhide HC' _))
      have HN := hide (World.drewN_drewN w m nq)
      obtain ⟨X, hX⟩ : ∃ X, Hid ((w.drewN m).drewN nq = X) := ⟨_, hide rfl⟩
      have HXX : Hid (X = w.drewN (m + nq)) := by rw [← unhide hX]; exact unhide HN
      rw [unhide hX]
      clear hX HN x0 x1 x2 y0 y1 y2 hb1' hb2' HC'
      go_wp2_with fail
      go_roundg (gk - 1)
      case measure => have := unhide hi; omega
      case rel => exact ⟨i + 1, _, by have := unhide hi; unfold Hid; omega, by go_num, HXX⟩
    · have hiL : i = L := by have := unhide hi; omega
      subst hiL
      go_wp2_with fail
      go_ret
      exact ⟨rfl, m, rfl⟩

set_option linter.unusedVariables false
set_option linter.unusedSimpArgs false
theorem blk8 (w : World) (t : TypeId) (v0 v1 v2 v3 v4 v5 v6 v7 : Value) {W : World} (h : Below (w.alloc (.cells #[v0, v1, v2, v3, v4, v5, v6, v7] t)).heap.size (w.alloc (.cells #[v0, v1, v2, v3, v4, v5, v6, v7] t)) W) :
    W.cell? ⟨w.heap.size, 0, none⟩ = some v0 ∧ W.cell? ⟨w.heap.size, 1, none⟩ = some v1 ∧ W.cell? ⟨w.heap.size, 2, none⟩ = some v2 ∧ W.cell? ⟨w.heap.size, 3, none⟩ = some v3 ∧ W.cell? ⟨w.heap.size, 4, none⟩ = some v4 ∧ W.cell? ⟨w.heap.size, 5, none⟩ = some v5 ∧ W.cell? ⟨w.heap.size, 6, none⟩ = some v6 ∧ W.cell? ⟨w.heap.size, 7, none⟩ = some v7 ∧ w.heap.size < W.heap.size := by
  obtain ⟨c1, c2, c3⟩ := blk_cells ((h.block w.heap.size (by simp)).trans (heap_alloc_new w _))
  exact ⟨c1 0, c1 1, c1 2, c1 3, c1 4, c1 5, c1 6, c1 7, c3⟩
set_option maxRecDepth 100000 in
set_option maxHeartbeats 6400000 in
theorem sameIns_any {w : World} {D D' : Nat → Prop} {av bv : Value} {l : List RIn} (ha : InsV D w l av) (hb : InsV D' w l bv) :
    Calls Try.prog 49 #[av, bv] w fun e w' => e = .returned (.bool true) ∧ Below w.heap.size w w' := by
  obtain ⟨a, acap, rfl, ha1, ha2⟩ := NV.shape ha
  obtain ⟨b, bcap, rfl, hb1, hb2⟩ := NV.shape hb
  have HA := hide ha
  have HB := hide hb
  unfold maxLen at ha2 hb2
  clear ha hb
  obtain ⟨L, hL⟩ : ∃ L, Hid (l.length = L) := ⟨_, hide rfl⟩
  rw [unhide hL] at ha1 hb1 HA HB ⊢
  have d0 : (((L : Nat) : Int) != (L : Int)) = false := by simp
  go_enter Try.func49, Try.ntmps49
  go_wp2_with fail
  go_loopg [5] L (fun gg t5 wr => ∃ (i : Nat), Hid (i + gg = L) ∧ t5 = .int .i64 (i : Int) ∧ Hid (Below w.heap.size w wr))
  case atStart => exact ⟨0, by unfold Hid; omega, rfl, hide (Below.refl _ _)⟩
  case round =>
    obtain ⟨i, hi, rfl, hw⟩ := hrel
    by_cases hlt : i < L
    · obtain ⟨x, hx⟩ : ∃ x, l[i]? = some x := ⟨_, List.getElem?_eq_getElem (by rw [unhide hL]; exact hlt)⟩
      have HA' := HA
      have HB' := HB
      rw [← unhide hL] at HA' HB'
      obtain ⟨b1, f1, c1, aa, ac, ea, ec, e1, hb1', _, p1, p2, p3, p4, p5, p6, hxc⟩ := (unhide HA').at hx
      obtain ⟨b2, f2, c2, ba, bc, fa, fc, e2, hb2', _, r1, r2, r3, r4, r5, r6, hyc⟩ := (unhide HB').at hx
      rw [unhide hL] at e1 e2
      cases e1
      cases e2
      have hs := (unhide hw).size
      obtain ⟨x0, x1, x2, x3, x4, x5, x6, x7⟩ := hxc wr ((unhide hw).block b1 hb1')
      have hb1w : b1 < wr.heap.size := by omega
      have hb2w : b2 < wr.heap.size := by omega
      have i0 : (0 : Int) ≤ (i : Int) := by omega
      have i1 : (i : Int) < (L : Int) := by omega
      have HWX := hide (box1n wr (.cells #[.int .i64 x.op, .int .i64 x.code, .int .i64 x.dst, .slice aa x.args.length ac, .int .i64 x.n, .int .i64 x.pc, .int .i64 x.need, .slice ea x.ex.length ec] 43))
      obtain ⟨Wx, hWx⟩ : ∃ Wx, Hid (wr.alloc (.cells #[.int .i64 x.op, .int .i64 x.code, .int .i64 x.dst, .slice aa x.args.length ac, .int .i64 x.n, .int .i64 x.pc, .int .i64 x.need, .slice ea x.ex.length ec] 43) = Wx) := ⟨_, hide rfl⟩
      have HXC : Hid (∀ W, Below Wx.heap.size Wx W → _) := fun W (hW : Below Wx.heap.size Wx W) => blk8 wr 43 (.int .i64 x.op) (.int .i64 x.code) (.int .i64 x.dst) (.slice aa x.args.length ac) (.int .i64 x.n) (.int .i64 x.pc) (.int .i64 x.need) (.slice ea x.ex.length ec) (W := W) (by rw [unhide hWx]; exact hW)
      rw [unhide hWx] at HWX
      have hsx := (unhide HWX).size
      obtain ⟨y0, y1, y2, y3, y4, y5, y6, y7⟩ := hyc Wx (((unhide HWX).block b2 hb2w).trans ((unhide hw).block b2 hb2'))
      have hb2x : b2 < Wx.heap.size := by omega
      have HWY := hide (box1n Wx (.cells #[.int .i64 x.op, .int .i64 x.code, .int .i64 x.dst, .slice ba x.args.length bc, .int .i64 x.n, .int .i64 x.pc, .int .i64 x.need, .slice fa x.ex.length fc] 43))
      obtain ⟨Wy, hWy⟩ : ∃ Wy, Hid (Wx.alloc (.cells #[.int .i64 x.op, .int .i64 x.code, .int .i64 x.dst, .slice ba x.args.length bc, .int .i64 x.n, .int .i64 x.pc, .int .i64 x.need, .slice fa x.ex.length fc] 43) = Wy) := ⟨_, hide rfl⟩
      have HYC : Hid (∀ W, Below Wy.heap.size Wy W → _) := fun W (hW : Below Wy.heap.size Wy W) => blk8 Wx 43 (.int .i64 x.op) (.int .i64 x.code) (.int .i64 x.dst) (.slice ba x.args.length bc) (.int .i64 x.n) (.int .i64 x.pc) (.int .i64 x.need) (.slice fa x.ex.length fc) (W := W) (by rw [unhide hWy]; exact hW)
      rw [unhide hWy] at HWY
      obtain ⟨g0, g1, g2, g3, g4, g5, g6, g7, g8⟩ := unhide HXC Wy (unhide HWY)
      obtain ⟨k0, k1, k2, k3, k4, k5, k6, k7, k8⟩ := unhide HYC Wy (Below.refl _ _)
      have HBW := hide (bl_past (bl_past (unhide hw) (unhide HWX)) (unhide HWY))
      have HC16 := hide (sameOpnds_any (OpV.mv.bel p1 (unhide HBW)) (OpV.mv.bel r1 (unhide HBW)))
      have HC17 := hide (fun n => sameShapes_any (ShsV.mv.bel p4 (bl_past (unhide HBW) (bl_drewN Wy n))) (ShsV.mv.bel r4 (bl_past (unhide HBW) (bl_drewN Wy n))))
      have d1 : (x.op != x.op) = false := by simp
      have d2 : (x.code != x.code) = false := by simp
      have d3 : (x.dst != x.dst) = false := by simp
      have d4 : (x.n != x.n) = false := by simp
      have d5 : (x.pc != x.pc) = false := by simp
      have d6 : (x.need != x.need) = false := by simp
      have hWx' := unhide hWx
      have hWy' := unhide hWy
      unfold maxLen at p3 p6 r3 r6
      clear HA' HB' hx hxc hyc p1 r1 p4 r4 HWX HWY
      go_wp2_with fail
      refine (unhide HC16).mono ?_
      rintro e w1 ⟨rfl, n1, hn1⟩
      subst hn1
      clear HC16 x0 x1 x2 x3 x4 x5 x6 x7 y0 y1 y2 y3 y4 y5 y6 y7 hWx' hWy'
      go_wp2_with fail
      refine (unhide HC17 n1).mono ?_
      rintro e w2 ⟨rfl, n2, hn2⟩
      have HXX : Hid (Below w.heap.size w w2) := by rw [hn2]; exact bl_past (bl_past (unhide HBW) (bl_drewN Wy n1)) (bl_drewN _ n2)
      clear HC17 hn2 g0 g1 g2 g3 g4 g5 g6 g7 g8 k0 k1 k2 k3 k4 k5 k6 k7 k8
      go_wp2_with fail
      go_roundg (gk - 1)
      case measure => have := unhide hi; omega
      case rel => exact ⟨i + 1, by have := unhide hi; unfold Hid; omega, by go_num, HXX⟩
    · have hiL : i = L := by have := unhide hi; omega
      subst hiL
      go_wp2_with fail
      go_ret
      exact ⟨rfl, unhide hw⟩
set_option maxRecDepth 100000 in
set_option maxHeartbeats 6400000 in
theorem sameBlocks_any {w : World} {D D' : Nat → Prop} {av bv : Value} {l : List Bk} (ha : BksV D w l av) (hb : BksV D' w l bv) :
    Calls Try.prog 23 #[av, bv] w fun e w' => e = .returned (.bool true) ∧ Below w.heap.size w w' := by
  obtain ⟨a, acap, rfl, ha1, ha2⟩ := NV.shape ha
  obtain ⟨b, bcap, rfl, hb1, hb2⟩ := NV.shape hb
  have HA := hide ha
  have HB := hide hb
  unfold maxLen at ha2 hb2
  clear ha hb
  obtain ⟨L, hL⟩ : ∃ L, Hid (l.length = L) := ⟨_, hide rfl⟩
  rw [unhide hL] at ha1 hb1 HA HB ⊢
  have d0 : (((L : Nat) : Int) != (L : Int)) = false := by simp
  go_enter Try.func23, Try.ntmps23
  go_wp2_with fail
  go_loopg [5] L (fun gg t5 wr => ∃ (i : Nat), Hid (i + gg = L) ∧ t5 = .int .i64 (i : Int) ∧ Hid (Below w.heap.size w wr))
  case atStart => exact ⟨0, by unfold Hid; omega, rfl, hide (Below.refl _ _)⟩
  case round =>
    obtain ⟨i, hi, rfl, hw⟩ := hrel
    by_cases hlt : i < L
    · obtain ⟨x, hx⟩ : ∃ x, l[i]? = some x := ⟨_, List.getElem?_eq_getElem (by rw [unhide hL]; exact hlt)⟩
      have HA' := HA
      have HB' := HB
      rw [← unhide hL] at HA' HB'
      obtain ⟨b1, f1, c1, ia, ic, na, nc, e1, hb1', _, ⟨_, p1, p2⟩, p3, p4, p5, p6, hxc⟩ := (unhide HA').at hx
      obtain ⟨b2, f2, c2, ja, jc, ma, mc, e2, hb2', _, ⟨_, r1, r2⟩, r3, r4, r5, r6, hyc⟩ := (unhide HB').at hx
      dsimp only at p1 p2 r1 r2
      rw [unhide hL] at e1 e2
      cases e1
      cases e2
      obtain ⟨N, hN⟩ : ∃ N, Hid (x.nx.length = N) := ⟨_, hide rfl⟩
      rw [unhide hN] at p2 r2 p5 r5
      have HSW : Hid (∀ W, Below w.heap.size w W → W.cell? ⟨b1, f1 + i * 3, none⟩ = some (.int .i64 x.pc) ∧ W.cell? ⟨b1, f1 + i * 3 + 1, none⟩ = some (.slice ia x.ins.length ic) ∧ W.cell? ⟨b1, f1 + i * 3 + 2, none⟩ = some (.slice na N nc) ∧ W.cell? ⟨b2, f2 + i * 3, none⟩ = some (.int .i64 x.pc) ∧ W.cell? ⟨b2, f2 + i * 3 + 1, none⟩ = some (.slice ja x.ins.length jc) ∧ W.cell? ⟨b2, f2 + i * 3 + 2, none⟩ = some (.slice ma N mc)) := fun W hW => by
        obtain ⟨q0, q1, q2⟩ := hxc W (hW.block b1 hb1')
        obtain ⟨q3, q4, q5⟩ := hyc W (hW.block b2 hb2')
        rw [unhide hN] at q2 q5
        exact ⟨q0, q1, q2, q3, q4, q5⟩
      have HS0 : Hid (∀ W, Below wr.heap.size wr W → _) := fun W (hW : Below wr.heap.size wr W) => unhide HSW W (bl_past (unhide hw) hW)
      have HC := hide (fun W (hW : Below wr.heap.size wr W) => sameIns_any (InsV.mv.bel p1 (bl_past (unhide hw) hW)) (InsV.mv.bel r1 (bl_past (unhide hw) hW)))
      have HN1 := hide p2
      have HN2 := hide r2
      have hs := (unhide hw).size
      have hb1w : b1 < wr.heap.size := by omega
      have hb2w : b2 < wr.heap.size := by omega
      have i0 : (0 : Int) ≤ (i : Int) := by omega
      have i1 : (i : Int) < (L : Int) := by omega
      have d1 : (x.pc != x.pc) = false := by simp
      have d2 : (((N : Nat) : Int) != (N : Int)) = false := by simp
      unfold maxLen at p4 p6 r4 r6
      obtain ⟨G0, hG0⟩ : ∃ G0 : Nat, Hid (G0 = gk) := ⟨_, hide rfl⟩
      clear HA' HB' hx hxc hyc p1 p2 r1 r2
      go_wp2_with fail
      refine wp_region_held_drew (S := (fun W => W.cell? ⟨b1, f1 + i * 3, none⟩ = some (.int .i64 x.pc) ∧ W.cell? ⟨b1, f1 + i * 3 + 1, none⟩ = some (.slice ia x.ins.length ic) ∧ W.cell? ⟨b1, f1 + i * 3 + 2, none⟩ = some (.slice na N nc) ∧ W.cell? ⟨b2, f2 + i * 3, none⟩ = some (.int .i64 x.pc) ∧ W.cell? ⟨b2, f2 + i * 3 + 1, none⟩ = some (.slice ja x.ins.length jc) ∧ W.cell? ⟨b2, f2 + i * 3 + 2, none⟩ = some (.slice ma N mc))) (by kernel_rfl) (unhide HS0 _ (bl_drew _)) (fun hHeld => ?_)
      clear hHeld
      refine wpAnyH_take (i := 0) (oi := _) (v := .slice (some ⟨b1, f1, none⟩) L acap) rfl (by kernel_rfl) (by kernel_rfl) (by kernel_rfl) (fun _ _ _ h => h) (Or.inl ⟨by rfl, (by intro w' hSw; obtain ⟨s0, s1, s2, s3, s4, s5⟩ := hSw; go_simp)⟩) (unhide HS0 _ (bl_drew _)) ?_
      go_simp
      refine wpAnyH_take (i := 1) (oi := _) (v := .int .i64 (i : Int)) rfl (by kernel_rfl) (by kernel_rfl) (by kernel_rfl) (fun _ _ _ h => h) (Or.inl ⟨by rfl, (by intro w' hSw; obtain ⟨s0, s1, s2, s3, s4, s5⟩ := hSw; go_simp)⟩) (unhide HS0 _ (bl_drew _)) ?_
      go_simp
      refine wpAnyH_take (i := 2) (oi := _) (v := .pointer (some ⟨b1, f1 + i * 3, none⟩)) rfl (by kernel_rfl) (by kernel_rfl) (by kernel_rfl) (fun _ _ _ h => h) (Or.inl ⟨by rfl, (by intro w' hSw; obtain ⟨s0, s1, s2, s3, s4, s5⟩ := hSw; go_simp)⟩) (unhide HS0 _ (bl_drew _)) ?_
      go_simp
      refine wpAnyH_take (i := 3) (oi := _) (v := .pointer (some ⟨b1, f1 + i * 3, none⟩)) rfl (by kernel_rfl) (by kernel_rfl) (by kernel_rfl) (fun _ _ _ h => h) (Or.inl ⟨by rfl, (by intro w' hSw; obtain ⟨s0, s1, s2, s3, s4, s5⟩ := hSw; go_simp)⟩) (unhide HS0 _ (bl_drew _)) ?_
      go_simp
      refine wpAnyH_take (i := 4) (oi := _) (v := .int .i64 x.pc) rfl (by kernel_rfl) (by kernel_rfl) (by kernel_rfl) (fun _ _ _ h => h) (Or.inl ⟨by rfl, (by intro w' hSw; obtain ⟨s0, s1, s2, s3, s4, s5⟩ := hSw; go_simp)⟩) (unhide HS0 _ (bl_drew _)) ?_
      go_simp
      refine wpAnyH_take (i := 5) (oi := _) (v := .slice (some ⟨b2, f2, none⟩) L bcap) rfl (by kernel_rfl) (by kernel_rfl) (by kernel_rfl) (fun _ _ _ h => h) (Or.inl ⟨by rfl, (by intro w' hSw; obtain ⟨s0, s1, s2, s3, s4, s5⟩ := hSw; go_simp)⟩) (unhide HS0 _ (bl_drew _)) ?_
      go_simp
      refine wpAnyH_take (i := 6) (oi := _) (v := .int .i64 (i : Int)) rfl (by kernel_rfl) (by kernel_rfl) (by kernel_rfl) (fun _ _ _ h => h) (Or.inl ⟨by rfl, (by intro w' hSw; obtain ⟨s0, s1, s2, s3, s4, s5⟩ := hSw; go_simp)⟩) (unhide HS0 _ (bl_drew _)) ?_
      go_simp
      refine wpAnyH_take (i := 7) (oi := _) (v := .pointer (some ⟨b2, f2 + i * 3, none⟩)) rfl (by kernel_rfl) (by kernel_rfl) (by kernel_rfl) (fun _ _ _ h => h) (Or.inl ⟨by rfl, (by intro w' hSw; obtain ⟨s0, s1, s2, s3, s4, s5⟩ := hSw; go_simp)⟩) (unhide HS0 _ (bl_drew _)) ?_
      go_simp
      refine wpAnyH_take (i := 8) (oi := _) (v := .pointer (some ⟨b2, f2 + i * 3, none⟩)) rfl (by kernel_rfl) (by kernel_rfl) (by kernel_rfl) (fun _ _ _ h => h) (Or.inl ⟨by rfl, (by intro w' hSw; obtain ⟨s0, s1, s2, s3, s4, s5⟩ := hSw; go_simp)⟩) (unhide HS0 _ (bl_drew _)) ?_
      go_simp
      refine wpAnyH_take (i := 9) (oi := _) (v := .int .i64 x.pc) rfl (by kernel_rfl) (by kernel_rfl) (by kernel_rfl) (fun _ _ _ h => h) (Or.inl ⟨by rfl, (by intro w' hSw; obtain ⟨s0, s1, s2, s3, s4, s5⟩ := hSw; go_simp)⟩) (unhide HS0 _ (bl_drew _)) ?_
      go_simp
      refine wpAnyH_take (i := 10) (oi := _) (v := .bool false) rfl (by kernel_rfl) (by kernel_rfl) (by kernel_rfl) (fun _ _ _ h => h) (Or.inl ⟨by rfl, (by intro w' hSw; obtain ⟨s0, s1, s2, s3, s4, s5⟩ := hSw; go_simp)⟩) (unhide HS0 _ (bl_drew _)) ?_
      go_simp
      refine wpAnyH_take (i := 11) (oi := _) (v := .bool false) rfl (by kernel_rfl) (by kernel_rfl) (by kernel_rfl) (fun _ _ _ h => h) (Or.inl ⟨by rfl, (by intro w' hSw; obtain ⟨s0, s1, s2, s3, s4, s5⟩ := hSw; go_simp)⟩) (unhide HS0 _ (bl_drew _)) ?_
      go_simp
      refine wpAnyH_take (i := 12) (oi := _) (v := .slice (some ⟨b1, f1, none⟩) L acap) rfl (by kernel_rfl) (by kernel_rfl) (by kernel_rfl) (fun _ _ _ h => h) (Or.inl ⟨by rfl, (by intro w' hSw; obtain ⟨s0, s1, s2, s3, s4, s5⟩ := hSw; go_simp)⟩) (unhide HS0 _ (bl_drew _)) ?_
      go_simp
      refine wpAnyH_take (i := 13) (oi := _) (v := .int .i64 (i : Int)) rfl (by kernel_rfl) (by kernel_rfl) (by kernel_rfl) (fun _ _ _ h => h) (Or.inl ⟨by rfl, (by intro w' hSw; obtain ⟨s0, s1, s2, s3, s4, s5⟩ := hSw; go_simp)⟩) (unhide HS0 _ (bl_drew _)) ?_
      go_simp
      refine wpAnyH_take (i := 14) (oi := _) (v := .pointer (some ⟨b1, f1 + i * 3, none⟩)) rfl (by kernel_rfl) (by kernel_rfl) (by kernel_rfl) (fun _ _ _ h => h) (Or.inl ⟨by rfl, (by intro w' hSw; obtain ⟨s0, s1, s2, s3, s4, s5⟩ := hSw; go_simp)⟩) (unhide HS0 _ (bl_drew _)) ?_
      go_simp
      refine wpAnyH_take (i := 15) (oi := _) (v := .pointer (some ⟨b1, f1 + i * 3 + 2, none⟩)) rfl (by kernel_rfl) (by kernel_rfl) (by kernel_rfl) (fun _ _ _ h => h) (Or.inl ⟨by rfl, (by intro w' hSw; obtain ⟨s0, s1, s2, s3, s4, s5⟩ := hSw; go_simp)⟩) (unhide HS0 _ (bl_drew _)) ?_
      go_simp
      refine wpAnyH_take (i := 16) (oi := _) (v := .slice na N nc) rfl (by kernel_rfl) (by kernel_rfl) (by kernel_rfl) (fun _ _ _ h => h) (Or.inl ⟨by rfl, (by intro w' hSw; obtain ⟨s0, s1, s2, s3, s4, s5⟩ := hSw; go_simp)⟩) (unhide HS0 _ (bl_drew _)) ?_
      go_simp
      refine wpAnyH_take (i := 17) (oi := _) (v := .int .i64 (N : Int)) rfl (by kernel_rfl) (by kernel_rfl) (by kernel_rfl) (fun _ _ _ h => h) (Or.inl ⟨by rfl, (by intro w' hSw; obtain ⟨s0, s1, s2, s3, s4, s5⟩ := hSw; go_simp)⟩) (unhide HS0 _ (bl_drew _)) ?_
      go_simp
      refine wpAnyH_take (i := 18) (oi := _) (v := .slice (some ⟨b2, f2, none⟩) L bcap) rfl (by kernel_rfl) (by kernel_rfl) (by kernel_rfl) (fun _ _ _ h => h) (Or.inl ⟨by rfl, (by intro w' hSw; obtain ⟨s0, s1, s2, s3, s4, s5⟩ := hSw; go_simp)⟩) (unhide HS0 _ (bl_drew _)) ?_
      go_simp
      refine wpAnyH_take (i := 19) (oi := _) (v := .int .i64 (i : Int)) rfl (by kernel_rfl) (by kernel_rfl) (by kernel_rfl) (fun _ _ _ h => h) (Or.inl ⟨by rfl, (by intro w' hSw; obtain ⟨s0, s1, s2, s3, s4, s5⟩ := hSw; go_simp)⟩) (unhide HS0 _ (bl_drew _)) ?_
      go_simp
      refine wpAnyH_take (i := 20) (oi := _) (v := .pointer (some ⟨b2, f2 + i * 3, none⟩)) rfl (by kernel_rfl) (by kernel_rfl) (by kernel_rfl) (fun _ _ _ h => h) (Or.inl ⟨by rfl, (by intro w' hSw; obtain ⟨s0, s1, s2, s3, s4, s5⟩ := hSw; go_simp)⟩) (unhide HS0 _ (bl_drew _)) ?_
      go_simp
      refine wpAnyH_take (i := 21) (oi := _) (v := .pointer (some ⟨b2, f2 + i * 3 + 2, none⟩)) rfl (by kernel_rfl) (by kernel_rfl) (by kernel_rfl) (fun _ _ _ h => h) (Or.inl ⟨by rfl, (by intro w' hSw; obtain ⟨s0, s1, s2, s3, s4, s5⟩ := hSw; go_simp)⟩) (unhide HS0 _ (bl_drew _)) ?_
      go_simp
      refine wpAnyH_take (i := 22) (oi := _) (v := .slice ma N mc) rfl (by kernel_rfl) (by kernel_rfl) (by kernel_rfl) (fun _ _ _ h => h) (Or.inl ⟨by rfl, (by intro w' hSw; obtain ⟨s0, s1, s2, s3, s4, s5⟩ := hSw; go_simp)⟩) (unhide HS0 _ (bl_drew _)) ?_
      go_simp
      refine wpAnyH_take (i := 23) (oi := _) (v := .int .i64 (N : Int)) rfl (by kernel_rfl) (by kernel_rfl) (by kernel_rfl) (fun _ _ _ h => h) (Or.inl ⟨by rfl, (by intro w' hSw; obtain ⟨s0, s1, s2, s3, s4, s5⟩ := hSw; go_simp)⟩) (unhide HS0 _ (bl_drew _)) ?_
      go_simp
      refine wpAnyH_take (i := 24) (oi := _) (v := .bool false) rfl (by kernel_rfl) (by kernel_rfl) (by kernel_rfl) (fun _ _ _ h => h) (Or.inl ⟨by rfl, (by intro w' hSw; obtain ⟨s0, s1, s2, s3, s4, s5⟩ := hSw; go_simp)⟩) (unhide HS0 _ (bl_drew _)) ?_
      go_simp
      refine wpAnyH_take (i := 25) (oi := _) (v := .bool false) rfl (by kernel_rfl) (by kernel_rfl) (by kernel_rfl) (fun _ _ _ h => h) (Or.inl ⟨by rfl, (by intro w' hSw; obtain ⟨s0, s1, s2, s3, s4, s5⟩ := hSw; go_simp)⟩) (unhide HS0 _ (bl_drew _)) ?_
      go_simp
      refine wpAnyH_take (i := 26) (oi := _) (v := .bool false) rfl (by kernel_rfl) (by kernel_rfl) (by kernel_rfl) (fun _ _ _ h => h) (Or.inl ⟨by rfl, (by intro w' hSw; obtain ⟨s0, s1, s2, s3, s4, s5⟩ := hSw; go_simp)⟩) (unhide HS0 _ (bl_drew _)) ?_
      go_simp
      refine wpAnyH_take (i := 27) (oi := _) (v := .slice (some ⟨b1, f1, none⟩) L acap) rfl (by kernel_rfl) (by kernel_rfl) (by kernel_rfl) (fun _ _ _ h => h) (Or.inl ⟨by rfl, (by intro w' hSw; obtain ⟨s0, s1, s2, s3, s4, s5⟩ := hSw; go_simp)⟩) (unhide HS0 _ (bl_drew _)) ?_
      go_simp
      refine wpAnyH_take (i := 28) (oi := _) (v := .int .i64 (i : Int)) rfl (by kernel_rfl) (by kernel_rfl) (by kernel_rfl) (fun _ _ _ h => h) (Or.inl ⟨by rfl, (by intro w' hSw; obtain ⟨s0, s1, s2, s3, s4, s5⟩ := hSw; go_simp)⟩) (unhide HS0 _ (bl_drew _)) ?_
      go_simp
      refine wpAnyH_take (i := 29) (oi := _) (v := .pointer (some ⟨b1, f1 + i * 3, none⟩)) rfl (by kernel_rfl) (by kernel_rfl) (by kernel_rfl) (fun _ _ _ h => h) (Or.inl ⟨by rfl, (by intro w' hSw; obtain ⟨s0, s1, s2, s3, s4, s5⟩ := hSw; go_simp)⟩) (unhide HS0 _ (bl_drew _)) ?_
      go_simp
      refine wpAnyH_take (i := 30) (oi := _) (v := .pointer (some ⟨b1, f1 + i * 3 + 1, none⟩)) rfl (by kernel_rfl) (by kernel_rfl) (by kernel_rfl) (fun _ _ _ h => h) (Or.inl ⟨by rfl, (by intro w' hSw; obtain ⟨s0, s1, s2, s3, s4, s5⟩ := hSw; go_simp)⟩) (unhide HS0 _ (bl_drew _)) ?_
      go_simp
      refine wpAnyH_take (i := 31) (oi := _) (v := .slice ia x.ins.length ic) rfl (by kernel_rfl) (by kernel_rfl) (by kernel_rfl) (fun _ _ _ h => h) (Or.inl ⟨by rfl, (by intro w' hSw; obtain ⟨s0, s1, s2, s3, s4, s5⟩ := hSw; go_simp)⟩) (unhide HS0 _ (bl_drew _)) ?_
      go_simp
      refine wpAnyH_take (i := 32) (oi := _) (v := .slice (some ⟨b2, f2, none⟩) L bcap) rfl (by kernel_rfl) (by kernel_rfl) (by kernel_rfl) (fun _ _ _ h => h) (Or.inl ⟨by rfl, (by intro w' hSw; obtain ⟨s0, s1, s2, s3, s4, s5⟩ := hSw; go_simp)⟩) (unhide HS0 _ (bl_drew _)) ?_
      go_simp
      refine wpAnyH_take (i := 33) (oi := _) (v := .int .i64 (i : Int)) rfl (by kernel_rfl) (by kernel_rfl) (by kernel_rfl) (fun _ _ _ h => h) (Or.inl ⟨by rfl, (by intro w' hSw; obtain ⟨s0, s1, s2, s3, s4, s5⟩ := hSw; go_simp)⟩) (unhide HS0 _ (bl_drew _)) ?_
      go_simp
      refine wpAnyH_take (i := 34) (oi := _) (v := .pointer (some ⟨b2, f2 + i * 3, none⟩)) rfl (by kernel_rfl) (by kernel_rfl) (by kernel_rfl) (fun _ _ _ h => h) (Or.inl ⟨by rfl, (by intro w' hSw; obtain ⟨s0, s1, s2, s3, s4, s5⟩ := hSw; go_simp)⟩) (unhide HS0 _ (bl_drew _)) ?_
      go_simp
      refine wpAnyH_take (i := 35) (oi := _) (v := .pointer (some ⟨b2, f2 + i * 3 + 1, none⟩)) rfl (by kernel_rfl) (by kernel_rfl) (by kernel_rfl) (fun _ _ _ h => h) (Or.inl ⟨by rfl, (by intro w' hSw; obtain ⟨s0, s1, s2, s3, s4, s5⟩ := hSw; go_simp)⟩) (unhide HS0 _ (bl_drew _)) ?_
      go_simp
      refine wpAnyH_take (i := 36) (oi := _) (v := .slice ja x.ins.length jc) rfl (by kernel_rfl) (by kernel_rfl) (by kernel_rfl) (fun _ _ _ h => h) (Or.inl ⟨by rfl, (by intro w' hSw; obtain ⟨s0, s1, s2, s3, s4, s5⟩ := hSw; go_simp)⟩) (unhide HS0 _ (bl_drew _)) ?_
      go_simp
      refine wpAnyH_ready (rs := [37]) (by kernel_rfl) (by simp) ?_
      refine AllReadyH.cons (o := _) rfl (fun K hK => ?_) AllReadyH.nil
      go_simp
      refine (unhide HC _ (bl_drew _)).mono ?_
      rintro e w3 ⟨rfl, b3⟩
      have HB3 := hide (bl_past (bl_drew _) b3)
      clear b3
      go_simp
      refine hK.out _ _ (unhide HS0 _ (unhide HB3)) (fun _ => ?_)
      clear hK K
      go_simp
      refine wpAnyH_take (i := 38) (oi := _) (v := .bool false) rfl (by kernel_rfl) (by kernel_rfl) (by kernel_rfl) (fun _ _ _ h => h) (Or.inl ⟨by rfl, (by intro w' hSw; obtain ⟨s0, s1, s2, s3, s4, s5⟩ := hSw; go_simp)⟩) (unhide HS0 _ (unhide HB3)) ?_
      go_simp
      refine wpAnyH_take (i := 39) (oi := _) (v := .bool false) rfl (by kernel_rfl) (by kernel_rfl) (by kernel_rfl) (fun _ _ _ h => h) (Or.inl ⟨by rfl, (by intro w' hSw; obtain ⟨s0, s1, s2, s3, s4, s5⟩ := hSw; go_simp)⟩) (unhide HS0 _ (unhide HB3)) ?_
      go_simp
      refine wpAnyH_done (by kernel_rfl) ?_ _
      go_wp2_with fail
      have HBW := hide (bl_past (unhide hw) (unhide HB3))
      clear HS0 HC hw HB3 hb1w hb2w hs
      go_loopg [6] N (fun gg t6 wq => ∃ (j : Nat), Hid (j + gg = N) ∧ t6 = .int .i64 (j : Int) ∧ Hid (Below w.heap.size w wq))
      case atStart => exact ⟨0, by unfold Hid; omega, rfl, HBW⟩
      case round =>
        clear HBW
        obtain ⟨j, hj, rfl, hw⟩ := hrel
        obtain ⟨s0, s1, s2, s3, s4, s5⟩ := unhide HSW _ (unhide hw)
        have hs := (unhide hw).size
        have hb1w : b1 < wr.heap.size := by omega
        have hb2w : b2 < wr.heap.size := by omega
        by_cases hjt : j < N
        · obtain ⟨n, hn⟩ : ∃ n, x.nx[j]? = some n := ⟨_, List.getElem?_eq_getElem (by rw [unhide hN]; exact hjt)⟩
          have HN1' := HN1
          have HN2' := HN2
          rw [← unhide hN] at HN1' HN2'
          obtain ⟨g1, o1, c1, e1, hg1, _, hc1⟩ := (unhide HN1').at hn
          obtain ⟨g2, o2, c2, e2, hg2, _, hc2⟩ := (unhide HN2').at hn
          rw [unhide hN] at e1 e2
          cases e1
          cases e2
          have k1 := hc1 wr ((unhide hw).block g1 hg1)
          have k2 := hc2 wr ((unhide hw).block g2 hg2)
          have hg1w : g1 < wr.heap.size := by omega
          have hg2w : g2 < wr.heap.size := by omega
          have j0 : (0 : Int) ≤ (j : Int) := by omega
          have j1 : (j : Int) < (N : Int) := by omega
          have d3 : (n != n) = false := by simp
          clear HN1' HN2' hn hc1 hc2
          go_wp2_with fail
          go_quiet (fail)
          have HXX := hide (bl_past (unhide hw) (bl_drewN wr nq))
          obtain ⟨X, hX⟩ : ∃ X, Hid (wr.drewN nq = X) := ⟨_, hide rfl⟩
          rw [unhide hX] at HXX ⊢
          clear hX hw s0 s1 s2 s3 s4 s5 hs k1 k2 hb1w hb2w hg1w hg2w
          go_wp2_with fail
          go_roundg (gk - 1)
          case measure => have := unhide hj; omega
          case rel => exact ⟨j + 1, by have := unhide hj; unfold Hid; omega, by go_num, HXX⟩
        · have hjN : j = N := by have := unhide hj; omega
          subst hjN
          go_wp2_with fail
          go_roundg (G0 - 1)
          case measure => have h1 := unhide hG0; have h2 := unhide hi; omega
          case rel => exact ⟨i + 1, by have h1 := unhide hG0; have h2 := unhide hi; unfold Hid; omega, by go_num, hw⟩
    · have hiL : i = L := by have := unhide hi; omega
      subst hiL
      go_wp2_with fail
      go_ret
      exact ⟨rfl, unhide hw⟩

set_option linter.unusedVariables false
set_option linter.unusedSimpArgs false
/-- Code that was handed in: the box, its lists, what the code's blocks are. -/
structure HD (w : World) (p : Nat) (fn regs : Int) (bl : List Bk) (T : Nat → Nat) (rv : Nat → Value) (vs : Nat → List Value) (rs : List BkR) (g o c : Nat) (w' : World) : Prop where
  hs : HS T w' p fn regs (.slice (some ⟨g, o, none⟩) bl.length c) rv vs (rs ++ mks mkBk 16)
  r6 : rv 6 = .slice (some ⟨g, o, none⟩) (bl.length + 16) c
  ln : rs.length = bl.length
  el : ∀ (j : Nat) (b : Bk) (r : BkR), bl[j]? = some b → rs[j]? = some r → BkP (fun k => T k = 0) w' b r
  bw : Below w.heap.size w w'
  c4 : (vs 4).length = bl.length
  c5 : (vs 5).length = bl.length
  xs : ∃ X : List TB, X.map Prod.fst = rs ++ mks mkBk 16 ∧ XP T w.heap.size bl w' X
  tk : ∀ k, k < w.heap.size → T k = 0
theorem infoBk : ∃ i, Try.prog.info? 39 = some i ∧ i.zero = some (.agg #[.int .i64 0, .slice none 0 0, .slice none 0 0]) ∧ i.size = 3 ∧ i.bytes = 56 := info_parts infBk
set_option maxRecDepth 100000 in
set_option maxHeartbeats 12800000 in
theorem handCode_any {w : World} {fn regs : Int} {blv : Value} {bl : List Bk} (hl : BksV (fun k => k < w.heap.size) w bl blv)
    (hN : bl.length ≤ 1073741824) (hM : ∀ b ∈ bl, b.ins.length ≤ 1073741824 ∧ b.nx.length ≤ 1073741824 ∧ ∀ x ∈ b.ins, x.args.length ≤ 1073741824 ∧ x.ex.length ≤ 1073741824 ∧ ∀ s ∈ x.ex, s.sl.length ≤ 1073741824) (h2 : bkW bl ≤ 1073741824) (h3 : bkI bl ≤ 1073741824) :
    Calls Try.prog 6 #[.agg #[.int .i64 fn, .int .i64 regs, blv]] w fun e w' => ∃ T rv vs rs g o c, e = .returned (.pointer (some ⟨w.heap.size + 1, 0, none⟩)) ∧ HD w (w.heap.size + 1) fn regs bl T rv vs rs g o c w' := by
  obtain ⟨a, acap, rfl, ha1, ha2⟩ := NV.shape hl
  have HA := hide hl
  have HM := hide hM
  unfold maxLen at ha2
  clear hl hM
  obtain ⟨L, hL⟩ : ∃ L, Hid (bl.length = L) := ⟨_, hide rfl⟩
  rw [unhide hL] at ha1 hN HA ⊢
  have HX := hide (HC.start w fn regs (.slice a L acap) bl)
  go_enter Try.func6, Try.ntmps6
  go_wp2_with fail
  go_loopg [4] L (fun gg t4 wr => ∃ (i : Nat) (rs : List BkR) (T : Nat → Nat) (rv : Nat → Value) (vs : Nat → List Value), Hid (i + gg = L) ∧ t4 = .int .i64 (i : Int) ∧ Hid (rs.length = i) ∧ Hid (HC w fn regs (.slice a L acap) 0 0 (.slice none 0 0) bl i rs [] T rv vs wr))
  case atStart => exact ⟨0, _, _, _, _, by unfold Hid; omega, rfl, hide rfl, HX⟩
  case round =>
    clear HX
    obtain ⟨i, rs, T, rv, vs, hi, rfl, hrs, hH⟩ := hrel
    obtain ⟨c1, c2, c3⟩ := blk_cells (unhide hH).cb
    have y0 := c1 0
    have y1 := c1 1
    have y2 := c1 2
    simp at y0 y1 y2
    clear c1 c2
    by_cases hlt : i < L
    · obtain ⟨b, hb⟩ : ∃ b, bl[i]? = some b := ⟨_, List.getElem?_eq_getElem (by rw [unhide hL]; exact hlt)⟩
      have HA' := HA
      rw [← unhide hL] at HA'
      obtain ⟨eb, off, cap, ia, ic, na, nc, e, heb, _, hbp, hs1, hs2, hs3, hs4, hcl⟩ := (unhide HA').at hb
      rw [unhide hL] at e
      cases e
      have i0 : (0 : Int) ≤ (i : Int) := by omega
      have i1 : (i : Int) < (L : Int) := by omega
      have hbr := Nat.lt_of_lt_of_le heb (unhide hH).bw.size
      obtain ⟨k0, k1, k2⟩ := hcl wr ((unhide hH).bw.block eb heb)
      have HB1 := hide hb
      obtain ⟨hm1, hm2, hm3⟩ := unhide HM b (List.mem_of_getElem? hb)
      have HCALL := hide (handBlock_any (unhide hH).hs (BkP.mv _ (fun k => T k = 0) _ _ _ _ _ hbp (Fr.of_below (S := fun k => ¬ k < w.heap.size) ((unhide hH).bw)) (fun k hk e => ⟨fun q => q e, (unhide hH).tk k hk⟩)) hm1 hm2 hm3 (by
        have q1 := (unhide hH).c2
        have q2 := bkW_le bl (i + 1)
        rw [bkW_push hb] at q2
        omega) (by
        have q1 := (unhide hH).c3
        have q2 := bkI_le bl (i + 1)
        rw [bkI_push hb] at q2
        omega) (by have q1 := (unhide hH).c4; omega) (by have q1 := (unhide hH).c5; omega))
      unfold bkV at HCALL
      dsimp only at HCALL
      unfold maxLen at hs2 hs4
      clear hcl hb hbp HA' hm3
      go_wp2_with fail
      refine (unhide HCALL).mono ?_
      rintro e w1 ⟨⟨rp, ri, rn⟩, rfl, hBk⟩
      clear HCALL k0 k1 k2 hbr y0 y1 y2 c3
      obtain ⟨T1, rv1, vs1, g1, g2, g3⟩ := (unhide hH).block (unhide hrs) (unhide HB1) hBk
      obtain ⟨ra, rc, er1, _, _⟩ := NV.shape g2.2.1
      obtain ⟨sa, sc, er2, _, _⟩ := g2.2.2.1.shape
      dsimp only at er1 er2
      subst er1 er2
      obtain ⟨rn, hrn⟩ : ∃ rn, Hid (b.ins.length = rn) := ⟨_, hide rfl⟩
      obtain ⟨sn, hsn⟩ : ∃ sn, Hid (b.nx.length = sn) := ⟨_, hide rfl⟩
      rw [unhide hrn, unhide hsn] at g1 g2
      rw [unhide hrn, unhide hsn]
      have HG := hide (g1.below (((box1n w1 (.cells #[.int .i64 rp, .slice ra rn rc, .slice sa sn sc] 39))).trans ((bl_drew _).mono (by simp))) 8)
      have hxb := heap_alloc_new w1 (.cells #[.int .i64 rp, .slice ra rn rc, .slice sa sn sc] 39)
      have hxb' : (w1.alloc (.cells #[.int .i64 rp, .slice ra rn rc, .slice sa sn sc] 39)).drew.heap[w1.heap.size]? = some (.cells #[.int .i64 rp, .slice ra rn rc, .slice sa sn sc] 39) := hxb
      obtain ⟨x1, x2, x3⟩ := blk_cells hxb'
      have HSD : Hid ((w1.alloc (.cells #[.int .i64 rp, .slice ra rn rc, .slice sa sn sc] 39)).drew.cell? ⟨w1.heap.size, 0, none⟩ = some (.int .i64 rp) ∧ (w1.alloc (.cells #[.int .i64 rp, .slice ra rn rc, .slice sa sn sc] 39)).drew.cell? ⟨w1.heap.size, 1, none⟩ = some (.slice ra rn rc) ∧ (w1.alloc (.cells #[.int .i64 rp, .slice ra rn rc, .slice sa sn sc] 39)).drew.cell? ⟨w1.heap.size, 2, none⟩ = some (.slice sa sn sc)) := ⟨x1 0, x1 1, x1 2⟩
      obtain ⟨V, hV⟩ : ∃ V, Hid ((w1.alloc (.cells #[.int .i64 rp, .slice ra rn rc, .slice sa sn sc] 39)).drew = V) := ⟨_, hide rfl⟩
      have HSV := HSD
      rw [unhide hV] at HSV HG x3
      have hTx : tl T1 w1.heap.size 8 w1.heap.size = 8 := tl_ge _ _ (Nat.le_refl _)
      obtain ⟨T2, hT2⟩ : ∃ T2, Hid (tl T1 w1.heap.size 8 = T2) := ⟨_, hide rfl⟩
      rw [unhide hT2] at HG hTx
      obtain ⟨Wa, hWa⟩ : ∃ Wa, Hid (V.alloc (.cells #[.int .i64 rp, .slice ra rn rc, .slice sa sn sc] 39) = Wa) := ⟨_, hide rfl⟩
      have HBa : Hid (Below V.heap.size V Wa) := by rw [← unhide hWa]; exact box1n V _
      have hvl : Wa.heap.size = V.heap.size + 1 := by rw [← unhide hWa]; simp
      obtain ⟨i0r, hi0r, hz0r, hz1r, hz2r⟩ := infoBk
      have hgow : Ro Wa 3 (rv1 6) rs.length (flt enBk rs) := (unhide HG).hs.brow.fr (Fr.of_below (S := fun _ => False) (unhide HBa)) (fun _ _ e => e)
      obtain ⟨v', w3, hrun, hr3, hg3, hat3⟩ := Ro.app (P := Try.prog) 22 22 39 i0r _ 3 56 Try.underlying22 hi0r hz0r hz1r hz2r rfl (by decide) hgow ⟨V.heap.size, 0, none⟩ 1 1 (enBk ⟨rp, .slice ra rn rc, .slice sa sn sc⟩) rfl (by rw [← unhide hWa]; exact new_cells _ _ _) (by intro u hu; simp only [enBk, List.mem_cons, List.not_mem_nil, or_false] at hu; rcases hu with rfl | rfl | rfl <;> rfl) (by omega) (by unfold maxLen; rw [unhide hrs]; omega) (by rw [unhide hrs]; omega)
      obtain ⟨va, vc, ev, _, _⟩ := hr3.shape
      subst ev
      have HRUN := hide hrun
      obtain ⟨q1, q2⟩ := (unhide HG).pushB (unhide HBa) hr3 rfl hg3 hat3
      obtain ⟨Z, hZ⟩ : ∃ Z, Hid (w3.setCell ⟨w.heap.size + 1, 7, none⟩ (.slice va (rs.length + 1) vc) = Z) := ⟨_, hide rfl⟩
      rw [unhide hZ] at q1 q2
      have HCN := hide q1
      have HRL : Hid ((rs ++ [(⟨rp, .slice ra rn rc, .slice sa sn sc⟩ : BkR)]).length = i + 1) := by rw [List.length_append, unhide hrs]; rfl
      have f3 : Fr (fun k => (rv1 6).ownBlock = some k) Wa w3 := (Fr.refl _ Wa).grown hg3 (fun k e => .inr e)
      have htg := (unhide HG).hs.tag 6 (by omega) (by omega)
      have htp := (unhide HG).hs.tp
      obtain ⟨z3, z4, z5, z6, z7, zf, zl⟩ := (unhide HG).hs.cell
      have HSa : Hid (Wa.cell? ⟨w1.heap.size, 0, none⟩ = some (.int .i64 rp) ∧ Wa.cell? ⟨w1.heap.size, 1, none⟩ = some (.slice ra rn rc) ∧ Wa.cell? ⟨w1.heap.size, 2, none⟩ = some (.slice sa sn sc)) := ⟨((unhide HBa).cell (p := ⟨w1.heap.size, 0, none⟩) x3).trans (unhide HSV).1, ((unhide HBa).cell (p := ⟨w1.heap.size, 1, none⟩) x3).trans (unhide HSV).2.1, ((unhide HBa).cell (p := ⟨w1.heap.size, 2, none⟩) x3).trans (unhide HSV).2.2⟩
      have hxa : w1.heap.size < Wa.heap.size := by omega
      have nx : ¬ (rv1 6).ownBlock = some w1.heap.size := fun e => by have := htg _ e; omega
      have HSw : Hid (w3.cell? ⟨w1.heap.size, 0, none⟩ = some (.int .i64 rp) ∧ w3.cell? ⟨w1.heap.size, 1, none⟩ = some (.slice ra rn rc) ∧ w3.cell? ⟨w1.heap.size, 2, none⟩ = some (.slice sa sn sc)) := ⟨(f3.cell (a := ⟨w1.heap.size, 0, none⟩) hxa nx).trans (unhide HSa).1, (f3.cell (a := ⟨w1.heap.size, 1, none⟩) hxa nx).trans (unhide HSa).2.1, (f3.cell (a := ⟨w1.heap.size, 2, none⟩) hxa nx).trans (unhide HSa).2.2⟩
      have HSz : Hid (Z.cell? ⟨w1.heap.size, 0, none⟩ = some (.int .i64 rp) ∧ Z.cell? ⟨w1.heap.size, 1, none⟩ = some (.slice ra rn rc) ∧ Z.cell? ⟨w1.heap.size, 2, none⟩ = some (.slice sa sn sc)) := by
        have nz : ¬ (T2 w1.heap.size = 6 ∨ T2 w1.heap.size = 1) := by omega
        exact ⟨(q2.cell (a := ⟨w1.heap.size, 0, none⟩) x3 nz).trans (unhide HSV).1, (q2.cell (a := ⟨w1.heap.size, 1, none⟩) x3 nz).trans (unhide HSV).2.1, (q2.cell (a := ⟨w1.heap.size, 2, none⟩) x3 nz).trans (unhide HSV).2.2⟩
      have ga : Wa.cell? ⟨w.heap.size + 1, 7, none⟩ = some (rv1 6) := ((unhide HBa).cell (p := ⟨w.heap.size + 1, 7, none⟩) zl).trans z7
      have gaz : w.heap.size + 1 < Wa.heap.size := by omega
      have np : ¬ (rv1 6).ownBlock = some (w.heap.size + 1) := fun e => by have := htg _ e; omega
      have hV2 : w3.cell? ⟨w.heap.size + 1, 7, none⟩ = some (rv1 6) := (f3.cell (a := ⟨w.heap.size + 1, 7, none⟩) gaz np).trans ga
      have hV2f : w3.frozen? ⟨w.heap.size + 1, 7, none⟩ = false := (f3.frozen (a := ⟨w.heap.size + 1, 7, none⟩) gaz np).trans ((World.frozen?_of_block ((unhide HBa).block _ zl)).trans (zf 7))
      have hV2z : w.heap.size + 1 < w3.heap.size := Nat.lt_of_lt_of_le gaz f3.size
      clear hrun hr3 hg3 hat3 hgow q1 q2 f3 htg htp z3 z4 z5 z6 zf hi0r hz0r hz1r hz2r HBa hvl x1 x2 hxb hxb' HG nx np hxa hTx g1 g2 g3 hBk HA hH
      dsimp only
      go_wp2_with fail
      refine wp_region_held_drew (S := (fun W => W.cell? ⟨w1.heap.size, 0, none⟩ = some (.int .i64 rp) ∧ W.cell? ⟨w1.heap.size, 1, none⟩ = some (.slice ra rn rc) ∧ W.cell? ⟨w1.heap.size, 2, none⟩ = some (.slice sa sn sc))) (by kernel_rfl) (unhide HSD) (fun hHeld => ?_)
      clear hHeld
      rw [unhide hV]
      refine wpAnyH_take (i := 0) (oi := _) (v := .pointer (some ⟨w.heap.size + 1, 0, none⟩)) rfl (by kernel_rfl) (by kernel_rfl) (by kernel_rfl) (fun _ _ _ h => h) (Or.inl ⟨by rfl, (by intro w' hSw; obtain ⟨s0, s1, s2⟩ := hSw; go_simp)⟩) (unhide HSV) ?_
      go_simp
      refine wpAnyH_take (i := 1) (oi := _) (v := .pointer (some ⟨w.heap.size + 1, 0, none⟩)) rfl (by kernel_rfl) (by kernel_rfl) (by kernel_rfl) (fun _ _ _ h => h) (Or.inl ⟨by rfl, (by intro w' hSw; obtain ⟨s0, s1, s2⟩ := hSw; go_simp)⟩) (unhide HSV) ?_
      go_simp
      refine wpAnyH_take (i := 2) (oi := _) (v := .pointer (some ⟨w.heap.size + 1, 0, none⟩)) rfl (by kernel_rfl) (by kernel_rfl) (by kernel_rfl) (fun _ _ _ h => h) (Or.inl ⟨by rfl, (by intro w' hSw; obtain ⟨s0, s1, s2⟩ := hSw; go_simp)⟩) (unhide HSV) ?_
      go_simp
      refine wpAnyH_take (i := 3) (oi := _) (v := .pointer (some ⟨w.heap.size + 1, 7, none⟩)) rfl (by kernel_rfl) (by kernel_rfl) (by kernel_rfl) (fun _ _ _ h => h) (Or.inl ⟨by rfl, (by intro w' hSw; obtain ⟨s0, s1, s2⟩ := hSw; go_simp)⟩) (unhide HSV) ?_
      go_simp
      refine wpAnyH_take (i := 5) (oi := _) (v := .agg #[.int .i64 rp, .slice ra rn rc, .slice sa sn sc]) rfl (by kernel_rfl) (by kernel_rfl) (by kernel_rfl) (fun _ _ _ h => h) (Or.inl ⟨by rfl, (by intro w' hSw; obtain ⟨s0, s1, s2⟩ := hSw; go_simp)⟩) (unhide HSV) ?_
      go_simp
      refine wpAnyH_ready (rs := [4, 6]) (by kernel_rfl) (by simp) ?_
      refine AllReadyH.cons (o := _) rfl (fun K hK => ?_) (AllReadyH.cons (o := _) rfl (fun K hK => ?_) AllReadyH.nil)
      · go_simp
        refine hK.out _ _ (unhide HSV) (fun _ => ?_)
        clear hK K
        go_simp
        refine wpAnyH_ready (rs := [6]) (by kernel_rfl) (by simp) ?_
        refine AllReadyH.cons (o := _) rfl (fun K hK => ?_) AllReadyH.nil
        go_simp
        rw [unhide hWa]
        refine hK.out _ _ (unhide HSa) (fun _ => ?_)
        clear hK K
        go_simp
        refine wpAnyH_ready (rs := [7]) (by kernel_rfl) (by simp) ?_
        refine AllReadyH.cons (o := _) rfl (fun K hK => ?_) AllReadyH.nil
        refine step_appRun rfl _ _ (by rfl) _ _ _ (by rfl) (by rfl) (unhide HRUN) ?_
        refine hK.out _ _ (unhide HSw) (fun _ => ?_)
        clear hK K
        go_simp
        refine wpAnyH_take (i := 8) (oi := _) (v := .pointer (some ⟨w.heap.size + 1, 0, none⟩)) rfl (by kernel_rfl) (by kernel_rfl) (by kernel_rfl) (fun _ _ _ h => h) (Or.inl ⟨by rfl, (by intro w' hSw; obtain ⟨s0, s1, s2⟩ := hSw; go_simp)⟩) (unhide HSw) ?_
        go_simp
        refine wpAnyH_take (i := 9) (oi := _) (v := .pointer (some ⟨w.heap.size + 1, 7, none⟩)) rfl (by kernel_rfl) (by kernel_rfl) (by kernel_rfl) (fun _ _ _ h => h) (Or.inl ⟨by rfl, (by intro w' hSw; obtain ⟨s0, s1, s2⟩ := hSw; go_simp)⟩) (unhide HSw) ?_
        go_simp
        refine wpAnyH_ready (rs := [10]) (by kernel_rfl) (by simp) ?_
        refine AllReadyH.cons (o := _) rfl (fun K hK => ?_) AllReadyH.nil
        go_simp
        rw [unhide hZ]
        refine hK.out _ _ (unhide HSz) (fun _ => ?_)
        clear hK K
        go_simp
        refine wpAnyH_done (by kernel_rfl) ?_ _
        clear HSV HSD HSa HSw HRUN ga gaz hV2 hV2z hV2f z7 zl HSz
        go_wp2_with fail
        go_roundg (gk - 1)
        case measure => have := unhide hi; omega
        case rel => exact ⟨i + 1, _, _, _, _, by have := unhide hi; unfold Hid; omega, by go_num, HRL, HCN⟩
      · go_simp
        rw [unhide hWa]
        refine hK.out _ _ (unhide HSa) (fun _ => ?_)
        clear hK K
        go_simp
        refine wpAnyH_ready (rs := [4]) (by kernel_rfl) (by simp) ?_
        refine AllReadyH.cons (o := _) rfl (fun K hK => ?_) AllReadyH.nil
        go_simp
        refine hK.out _ _ (unhide HSa) (fun _ => ?_)
        clear hK K
        go_simp
        refine wpAnyH_ready (rs := [7]) (by kernel_rfl) (by simp) ?_
        refine AllReadyH.cons (o := _) rfl (fun K hK => ?_) AllReadyH.nil
        refine step_appRun rfl _ _ (by rfl) _ _ _ (by rfl) (by rfl) (unhide HRUN) ?_
        refine hK.out _ _ (unhide HSw) (fun _ => ?_)
        clear hK K
        go_simp
        refine wpAnyH_take (i := 8) (oi := _) (v := .pointer (some ⟨w.heap.size + 1, 0, none⟩)) rfl (by kernel_rfl) (by kernel_rfl) (by kernel_rfl) (fun _ _ _ h => h) (Or.inl ⟨by rfl, (by intro w' hSw; obtain ⟨s0, s1, s2⟩ := hSw; go_simp)⟩) (unhide HSw) ?_
        go_simp
        refine wpAnyH_take (i := 9) (oi := _) (v := .pointer (some ⟨w.heap.size + 1, 7, none⟩)) rfl (by kernel_rfl) (by kernel_rfl) (by kernel_rfl) (fun _ _ _ h => h) (Or.inl ⟨by rfl, (by intro w' hSw; obtain ⟨s0, s1, s2⟩ := hSw; go_simp)⟩) (unhide HSw) ?_
        go_simp
        refine wpAnyH_ready (rs := [10]) (by kernel_rfl) (by simp) ?_
        refine AllReadyH.cons (o := _) rfl (fun K hK => ?_) AllReadyH.nil
        go_simp
        rw [unhide hZ]
        refine hK.out _ _ (unhide HSz) (fun _ => ?_)
        clear hK K
        go_simp
        refine wpAnyH_done (by kernel_rfl) ?_ _
        clear HSV HSD HSa HSw HRUN ga gaz hV2 hV2z hV2f z7 zl HSz
        go_wp2_with fail
        go_roundg (gk - 1)
        case measure => have := unhide hi; omega
        case rel => exact ⟨i + 1, _, _, _, _, by have := unhide hi; unfold Hid; omega, by go_num, HRL, HCN⟩
    · have hiL : i = L := by have := unhide hi; omega
      subst hiL
      clear HA HM
      go_wp2_with fail
      clear y0 y1 y2 c3
      go_loopg [6] 16 (fun g t6 wq => ∃ (m : Nat) (T' : Nat → Nat) (rv' : Nat → Value), Hid (m + g = 16) ∧ t6 = .int .i64 (m : Int) ∧ Hid (HC w fn regs (.slice a i acap) 0 0 (.slice none 0 0) bl i (rs ++ mks mkBk m) [] T' rv' vs wq))
      case atStart => exact ⟨0, T, rv, by unfold Hid; omega, rfl, by have q := unhide hH; exact hide (by simpa [mks] using q)⟩
      case round =>
        clear hH
        obtain ⟨m, T', rv', hm, rfl, hH⟩ := hrel
        obtain ⟨z3, z4, z5, z6, z7, zf, zl⟩ := (unhide hH).hs.cell
        by_cases hmt : m < 16
        · have j0 : (0 : Int) ≤ (m : Int) := by omega
          have j1 : (m : Int) < 16 := by omega
          have zf7 := zf 7
          have HROW := hide (unhide hH).hs.brow
          have HLB : Hid ((rs ++ mks mkBk m).length ≤ 1099511627776) := by rw [List.length_append, mks_length, unhide hrs]; unfold Hid; omega
          clear zf z3 z4 z5 z6
          go_wp2_with (first | (at_builtin; refine appBk rfl _ _ rfl _ (rs ++ mks mkBk m) rfl ((unhide HROW).keep (fun g hg => Below.heap_alloc _ _ _ ((unhide HROW).lt g hg))) ⟨wr.heap.size, 0, none⟩ 1 (mkBk m) rfl (new_cells _ _ _) rfl rfl (unhide HLB) ?_))
          intro v' w2 hr hg hat
          obtain ⟨va, vc, ev, _, _⟩ := hr.shape
          subst ev
          have hp2 := prow (unhide hH).hs (t := 6) (by omega) (by omega) _ w2 hg
          have z7' : w2.cell? ⟨w.heap.size + 1, 7, none⟩ = some (rv' 6) := (World.cell?_of_block hp2).trans z7
          have zf7' : w2.frozen? ⟨w.heap.size + 1, 7, none⟩ = false := (World.frozen?_of_block hp2).trans zf7
          have zl' : w.heap.size + 1 < w2.heap.size := Nat.lt_of_lt_of_le zl (Nat.le_trans (by simp) hg.size)
          have HP := hide (((unhide hH).mark (by rw [List.length_append, unhide hrs, unhide hL]; omega) m).pushB (box1n wr _) hr (by simp) hg (by simpa using hat)).1
          rw [List.append_assoc, ← mks_succ] at HP
          clear hr hg hat HROW HLB hp2 z7 zf7 zl
          go_wp2_with fail
          go_roundg (gk - 1)
          case measure => have := unhide hm; omega
          case rel => exact ⟨m + 1, _, _, by have := unhide hm; unfold Hid; omega, by go_num, HP⟩
        · have hm16 : m = 16 := by have := unhide hm; omega
          subst hm16
          have how := (unhide hH).hs.brow
          rw [List.length_append, mks_length, unhide hrs] at how
          obtain ⟨gb, go, gc, eo, hg1, hg2, _⟩ := how.full (by omega)
          unfold maxLen at hg2
          obtain ⟨c1, c2, c3⟩ := blk_cells (unhide hH).cb
          obtain ⟨d1, d2, d3⟩ := blk_cells (unhide hH).hs.box
          have HSD : Hid (wr.drew.cell? ⟨w.heap.size, 0, none⟩ = some (.int .i64 fn) ∧ wr.drew.cell? ⟨w.heap.size, 1, none⟩ = some (.int .i64 regs) ∧ wr.drew.cell? ⟨w.heap.size, 2, none⟩ = some (.slice a i acap) ∧ wr.drew.cell? ⟨w.heap.size + 1, 7, none⟩ = some (.slice (some ⟨gb, go, none⟩) (i + 16) gc)) := ⟨c1 0, c1 1, c1 2, by rw [← eo]; exact z7⟩
          have HG := hide ((unhide hH).below (bl_drew wr) 8)
          have e0 : wr.drew.cell? ⟨w.heap.size + 1, 0, none⟩ = some (.int .i64 0) := d1 0
          have e1 : wr.drew.cell? ⟨w.heap.size + 1, 1, none⟩ = some (.int .i64 0) := d1 1
          have e2 : wr.drew.cell? ⟨w.heap.size + 1, 2, none⟩ = some (.slice none 0 0) := d1 2
          have f0 : wr.drew.frozen? ⟨w.heap.size + 1, 0, none⟩ = false := d2 0
          have f1 : wr.drew.frozen? ⟨w.heap.size + 1, 1, none⟩ = false := d2 1
          have f2 : wr.drew.frozen? ⟨w.heap.size + 1, 2, none⟩ = false := d2 2
          have zlv : w.heap.size + 1 < wr.drew.heap.size := zl
          have c3' : w.heap.size < wr.drew.heap.size := c3
          obtain ⟨V, hV⟩ : ∃ V, Hid (wr.drew = V) := ⟨_, hide rfl⟩
          have HSV := HSD
          rw [unhide hV] at HSV HG zlv c3'
          have b0 : V.cell? ⟨w.heap.size + 1, 0, none⟩ = some (.int .i64 0) := by rw [← unhide hV]; exact e0
          have b1 : V.cell? ⟨w.heap.size + 1, 1, none⟩ = some (.int .i64 0) := by rw [← unhide hV]; exact e1
          have b2 : V.cell? ⟨w.heap.size + 1, 2, none⟩ = some (.slice none 0 0) := by rw [← unhide hV]; exact e2
          have bf0 : V.frozen? ⟨w.heap.size + 1, 0, none⟩ = false := by rw [← unhide hV]; exact f0
          have bf1 : V.frozen? ⟨w.heap.size + 1, 1, none⟩ = false := by rw [← unhide hV]; exact f1
          have bf2 : V.frozen? ⟨w.heap.size + 1, 2, none⟩ = false := by rw [← unhide hV]; exact f2
          obtain ⟨q1, q2⟩ := (unhide HG).code fn regs (.slice (some ⟨gb, go, none⟩) i gc)
          obtain ⟨Z, hZ⟩ : ∃ Z, Hid (((V.setCell ⟨w.heap.size + 1, 0, none⟩ (.int .i64 fn)).setCell ⟨w.heap.size + 1, 1, none⟩ (.int .i64 regs)).setCell ⟨w.heap.size + 1, 2, none⟩ (.slice (some ⟨gb, go, none⟩) i gc) = Z) := ⟨_, hide rfl⟩
          rw [unhide hZ] at q1 q2
          have nz : ¬ (w.heap.size = w.heap.size + 1) := by omega
          have HSz : Hid (Z.cell? ⟨w.heap.size, 0, none⟩ = some (.int .i64 fn) ∧ Z.cell? ⟨w.heap.size, 1, none⟩ = some (.int .i64 regs) ∧ Z.cell? ⟨w.heap.size, 2, none⟩ = some (.slice a i acap) ∧ Z.cell? ⟨w.heap.size + 1, 7, none⟩ = some (.slice (some ⟨gb, go, none⟩) (i + 16) gc)) := ⟨(q2.cell (a := ⟨w.heap.size, 0, none⟩) c3' nz).trans (unhide HSV).1, (q2.cell (a := ⟨w.heap.size, 1, none⟩) c3' nz).trans (unhide HSV).2.1, (q2.cell (a := ⟨w.heap.size, 2, none⟩) c3' nz).trans (unhide HSV).2.2.1, by rw [← eo]; exact q1.hs.cell.2.2.2.2.1⟩
          have n0' : (0 : Int) ≤ (i : Int) := by omega
          have n1' : (i : Int) ≤ (gc : Int) := by omega
          have hxs := q1.xs
          rw [List.append_nil] at hxs
          have hel : ∀ (j : Nat) (b : Bk) (r : BkR), bl[j]? = some b → rs[j]? = some r → BkP (fun k => tl T' wr.heap.size 8 k = 0) Z b r := fun j b r hb hr => by
            obtain ⟨X, hX, hP⟩ := hxs
            obtain ⟨x, hx, hxr⟩ : ∃ x, X[j]? = some x ∧ x.1 = r := by
              have h1 : (X.map Prod.fst)[j]? = some r := by rw [hX, List.getElem?_append_left (List.getElem?_eq_some_iff.1 hr).1]; exact hr
              rw [List.getElem?_map] at h1
              cases hx : X[j]? with
              | none => rw [hx] at h1; cases h1
              | some x => rw [hx] at h1; cases h1; exact ⟨x, rfl, rfl⟩
            subst hxr
            exact BkP.mv _ _ _ _ _ _ _ (hP.el j b x hb hx).bkP (Fr.refl (fun _ => False) Z) (fun k hk e => ⟨fun q => q, (hP.bt x k (List.mem_of_getElem? hx) e).1⟩)
          have HDD : Hid (HD w (w.heap.size + 1) fn regs bl (tl T' wr.heap.size 8) rv' vs rs gb go gc Z) := ⟨by rw [unhide hL]; exact q1.hs, by rw [unhide hL]; exact eo, by rw [unhide hrs, unhide hL], hel, q1.bw, by rw [unhide hL]; exact q1.c4, by rw [unhide hL]; exact q1.c5, hxs, q1.tk⟩
          clear q1 q2 hxs hel nz hH HG how eo c1 c2 d1 d2 d3 e0 e1 e2 f0 f1 f2 z3 z4 z5 z6 z7 zf zl c3 c3'
          go_wp2_with fail
          refine wp_region_held_drew (S := (fun W => W.cell? ⟨w.heap.size, 0, none⟩ = some (.int .i64 fn) ∧ W.cell? ⟨w.heap.size, 1, none⟩ = some (.int .i64 regs) ∧ W.cell? ⟨w.heap.size, 2, none⟩ = some (.slice a i acap) ∧ W.cell? ⟨w.heap.size + 1, 7, none⟩ = some (.slice (some ⟨gb, go, none⟩) (i + 16) gc))) (by kernel_rfl) (unhide HSD) (fun hHeld => ?_)
          clear hHeld
          rw [unhide hV]
          refine wpAnyH_take (i := 0) (oi := _) (v := .pointer (some ⟨w.heap.size + 1, 0, none⟩)) rfl (by kernel_rfl) (by kernel_rfl) (by kernel_rfl) (fun _ _ _ h => h) (Or.inl ⟨by rfl, (by intro w' hSw; obtain ⟨s0, s1, s2, s3⟩ := hSw; go_simp)⟩) (unhide HSV) ?_
          go_simp
          refine wpAnyH_take (i := 1) (oi := _) (v := .pointer (some ⟨w.heap.size, 0, none⟩)) rfl (by kernel_rfl) (by kernel_rfl) (by kernel_rfl) (fun _ _ _ h => h) (Or.inl ⟨by rfl, (by intro w' hSw; obtain ⟨s0, s1, s2, s3⟩ := hSw; go_simp)⟩) (unhide HSV) ?_
          go_simp
          refine wpAnyH_take (i := 2) (oi := _) (v := .int .i64 fn) rfl (by kernel_rfl) (by kernel_rfl) (by kernel_rfl) (fun _ _ _ h => h) (Or.inl ⟨by rfl, (by intro w' hSw; obtain ⟨s0, s1, s2, s3⟩ := hSw; go_simp)⟩) (unhide HSV) ?_
          go_simp
          refine wpAnyH_take (i := 3) (oi := _) (v := .pointer (some ⟨w.heap.size, 1, none⟩)) rfl (by kernel_rfl) (by kernel_rfl) (by kernel_rfl) (fun _ _ _ h => h) (Or.inl ⟨by rfl, (by intro w' hSw; obtain ⟨s0, s1, s2, s3⟩ := hSw; go_simp)⟩) (unhide HSV) ?_
          go_simp
          refine wpAnyH_take (i := 4) (oi := _) (v := .int .i64 regs) rfl (by kernel_rfl) (by kernel_rfl) (by kernel_rfl) (fun _ _ _ h => h) (Or.inl ⟨by rfl, (by intro w' hSw; obtain ⟨s0, s1, s2, s3⟩ := hSw; go_simp)⟩) (unhide HSV) ?_
          go_simp
          refine wpAnyH_take (i := 5) (oi := _) (v := .pointer (some ⟨w.heap.size + 1, 0, none⟩)) rfl (by kernel_rfl) (by kernel_rfl) (by kernel_rfl) (fun _ _ _ h => h) (Or.inl ⟨by rfl, (by intro w' hSw; obtain ⟨s0, s1, s2, s3⟩ := hSw; go_simp)⟩) (unhide HSV) ?_
          go_simp
          refine wpAnyH_take (i := 6) (oi := _) (v := .pointer (some ⟨w.heap.size + 1, 0, none⟩)) rfl (by kernel_rfl) (by kernel_rfl) (by kernel_rfl) (fun _ _ _ h => h) (Or.inl ⟨by rfl, (by intro w' hSw; obtain ⟨s0, s1, s2, s3⟩ := hSw; go_simp)⟩) (unhide HSV) ?_
          go_simp
          refine wpAnyH_take (i := 7) (oi := _) (v := .pointer (some ⟨w.heap.size + 1, 7, none⟩)) rfl (by kernel_rfl) (by kernel_rfl) (by kernel_rfl) (fun _ _ _ h => h) (Or.inl ⟨by rfl, (by intro w' hSw; obtain ⟨s0, s1, s2, s3⟩ := hSw; go_simp)⟩) (unhide HSV) ?_
          go_simp
          refine wpAnyH_take (i := 8) (oi := _) (v := .slice (some ⟨gb, go, none⟩) (i + 16) gc) rfl (by kernel_rfl) (by kernel_rfl) (by kernel_rfl) (fun _ _ _ h => h) (Or.inl ⟨by rfl, (by intro w' hSw; obtain ⟨s0, s1, s2, s3⟩ := hSw; go_simp)⟩) (unhide HSV) ?_
          go_simp
          refine wpAnyH_take (i := 9) (oi := _) (v := .pointer (some ⟨w.heap.size, 2, none⟩)) rfl (by kernel_rfl) (by kernel_rfl) (by kernel_rfl) (fun _ _ _ h => h) (Or.inl ⟨by rfl, (by intro w' hSw; obtain ⟨s0, s1, s2, s3⟩ := hSw; go_simp)⟩) (unhide HSV) ?_
          go_simp
          refine wpAnyH_take (i := 10) (oi := _) (v := .slice a i acap) rfl (by kernel_rfl) (by kernel_rfl) (by kernel_rfl) (fun _ _ _ h => h) (Or.inl ⟨by rfl, (by intro w' hSw; obtain ⟨s0, s1, s2, s3⟩ := hSw; go_simp)⟩) (unhide HSV) ?_
          go_simp
          refine wpAnyH_take (i := 11) (oi := _) (v := .int .i64 (i : Int)) rfl (by kernel_rfl) (by kernel_rfl) (by kernel_rfl) (fun _ _ _ h => h) (Or.inl ⟨by rfl, (by intro w' hSw; obtain ⟨s0, s1, s2, s3⟩ := hSw; go_simp)⟩) (unhide HSV) ?_
          go_simp
          refine wpAnyH_take (i := 12) (oi := _) (v := .slice (some ⟨gb, go, none⟩) i gc) rfl (by kernel_rfl) (by kernel_rfl) (by kernel_rfl) (fun _ _ _ h => h) (Or.inl ⟨by rfl, (by intro w' hSw; obtain ⟨s0, s1, s2, s3⟩ := hSw; go_simp)⟩) (unhide HSV) ?_
          go_simp
          refine wpAnyH_take (i := 13) (oi := _) (v := .agg #[.int .i64 fn, .int .i64 regs, .slice (some ⟨gb, go, none⟩) i gc]) rfl (by kernel_rfl) (by kernel_rfl) (by kernel_rfl) (fun _ _ _ h => h) (Or.inl ⟨by rfl, (by intro w' hSw; obtain ⟨s0, s1, s2, s3⟩ := hSw; go_simp)⟩) (unhide HSV) ?_
          go_simp
          refine wpAnyH_take (i := 14) (oi := _) (v := .pointer (some ⟨w.heap.size + 1, 0, none⟩)) rfl (by kernel_rfl) (by kernel_rfl) (by kernel_rfl) (fun _ _ _ h => h) (Or.inl ⟨by rfl, (by intro w' hSw; obtain ⟨s0, s1, s2, s3⟩ := hSw; go_simp)⟩) (unhide HSV) ?_
          go_simp
          refine wpAnyH_take (i := 15) (oi := _) (v := .pointer (some ⟨w.heap.size + 1, 0, none⟩)) rfl (by kernel_rfl) (by kernel_rfl) (by kernel_rfl) (fun _ _ _ h => h) (Or.inl ⟨by rfl, (by intro w' hSw; obtain ⟨s0, s1, s2, s3⟩ := hSw; go_simp)⟩) (unhide HSV) ?_
          go_simp
          refine wpAnyH_ready (rs := [16]) (by kernel_rfl) (by simp) ?_
          refine AllReadyH.cons (o := _) rfl (fun K hK => ?_) AllReadyH.nil
          go_simp
          rw [unhide hZ]
          refine hK.out _ _ (unhide HSz) (fun _ => ?_)
          clear hK K
          go_simp
          refine wpAnyH_done (by kernel_rfl) ?_ _
          clear HSV HSD HSz b0 b1 b2 bf0 bf1 bf2 zlv
          go_wp2_with fail
          go_ret
          exact ⟨_, _, _, rs, gb, go, gc, rfl, unhide HDD⟩

set_option linter.unusedVariables false
set_option linter.unusedSimpArgs false
theorem MR.mark {R : Type} {en : R → List Value} {sz : Nat} {mk : Nat → R} (hz : ∀ x, (en x).length = sz) {D : Nat → Prop} {w : World} {v : Value} (h : MR en sz mk D w v) :
    ∃ n g o c, v = .slice (some ⟨g, o, none⟩) (n + 16) c ∧ n + 16 ≤ c ∧ c ≤ maxLen ∧ g < w.heap.size ∧ ∀ W : World, W.heap[g]? = w.heap[g]? → ∀ j, j < 16 → ∀ q x, (en (mk j))[q]? = some x → W.cell? ⟨g, o + (n + j) * sz + q, none⟩ = some x := by
  obtain ⟨l, b, o, c, rfl, _, hr⟩ := h
  obtain ⟨_, _, _, e2, m1, m2, m3, _⟩ := hr.full (by omega)
  cases e2
  refine ⟨l.length, b, o, c, rfl, m1, m2, m3, fun W hW j hj q x hx => ?_⟩
  have hat : (l ++ mks mk 16)[l.length + j]? = some (mk j) := by
    rw [List.getElem?_append_right (by omega), show l.length + j - l.length = j by omega]; exact mks_at mk hj
  have hrx := Rx.of_ro hr
  rw [show l.length + 16 = (l ++ mks mk 16).length by rw [List.length_append, mks_length]] at hrx
  obtain ⟨_, _, _, e3, _, _, _, hc⟩ := hrx.elem hz hat
  cases e3
  exact (World.cell?_of_block (a := ⟨b, o + (l.length + j) * sz + q, none⟩) hW).trans (hc q x hx)
section
variable {T : Nat → Nat} {w : World} {p : Nat} {cf cr : Int} {cb : Value} {rv : Nat → Value} {vs : Nat → List Value} {bs : List BkR}
/-- One list among those of a tag. -/
theorem HS.list (h : HS T w p cf cr cb rv vs bs) {t : Nat} (h2 : 2 ≤ t) (h5 : t ≤ 5) : ∃ a c, rv t = .slice a (vs t).length c ∧ (vs t).length ≤ c ∧ c ≤ maxLen ∧
    ∀ (i : Nat), i < (vs t).length → ∃ b o u, a = some ⟨b, o, none⟩ ∧ b < w.heap.size ∧ QT t (fun k => T k = 0) w u ∧ ∀ W : World, W.heap[b]? = w.heap[b]? → W.cell? ⟨b, o + i, none⟩ = some u := by
  obtain ⟨a, c, e, hl, hm⟩ := (h.row t h2 h5).shape
  refine ⟨a, c, e, hl, hm, fun i hi => ?_⟩
  have hu : (vs t)[i]? = some ((vs t)[i]) := List.getElem?_eq_getElem hi
  obtain ⟨b, o, c', e', _, _, hb, hc⟩ := (Rx.of_ro (h.row t h2 h5)).elem zV hu
  rw [e] at e'
  cases e'
  refine ⟨b, o, _, rfl, hb, h.el t h2 h5 _ (List.mem_of_getElem? hu), fun W hW => ?_⟩
  have := (World.cell?_of_block (a := ⟨b, o + i * 1 + 0, none⟩) hW).trans (hc 0 _ rfl)
  rwa [Nat.mul_one, Nat.add_zero] at this
end
set_option maxRecDepth 100000 in
set_option maxHeartbeats 12800000 in
theorem marked_any {w0 w : World} {p : Nat} {fn regs : Int} {bl : List Bk} {T : Nat → Nat} {rv : Nat → Value} {vs : Nat → List Value} {rs : List BkR} {g o c : Nat} (h : HD w0 p fn regs bl T rv vs rs g o c w) :
    Calls Try.prog 22 #[.pointer (some ⟨p, 0, none⟩)] w fun e w' => e = .returned (.bool true) ∧ Below w.heap.size w w' := by
  obtain ⟨a2, c2, r2, l2, m2, L2⟩ := h.hs.list (t := 2) (by omega) (by omega)
  obtain ⟨a3, c3, r3, l3, m3, L3⟩ := h.hs.list (t := 3) (by omega) (by omega)
  obtain ⟨a4, c4, r4, l4, m4, L4⟩ := h.hs.list (t := 4) (by omega) (by omega)
  obtain ⟨a5, c5, r5, l5, m5, L5⟩ := h.hs.list (t := 5) (by omega) (by omega)
  obtain ⟨z3, z4, z5, z6, z7, zf, zl⟩ := h.hs.cell
  rw [r2] at z3
  rw [r3] at z4
  rw [r4] at z5
  rw [r5] at z6
  rw [h.r6] at z7
  have HP : Hid (∀ W, Below w.heap.size w W → W.cell? ⟨p, 3, none⟩ = some (.slice a2 (vs 2).length c2) ∧ W.cell? ⟨p, 4, none⟩ = some (.slice a3 (vs 3).length c3) ∧ W.cell? ⟨p, 5, none⟩ = some (.slice a4 (vs 4).length c4) ∧ W.cell? ⟨p, 6, none⟩ = some (.slice a5 (vs 5).length c5) ∧ W.cell? ⟨p, 7, none⟩ = some (.slice (some ⟨g, o, none⟩) (bl.length + 16) c) ∧ p < W.heap.size) := fun W hW =>
    ⟨(hW.cell (p := ⟨p, 3, none⟩) zl).trans z3, (hW.cell (p := ⟨p, 4, none⟩) zl).trans z4, (hW.cell (p := ⟨p, 5, none⟩) zl).trans z5, (hW.cell (p := ⟨p, 6, none⟩) zl).trans z6, (hW.cell (p := ⟨p, 7, none⟩) zl).trans z7, Nat.lt_of_lt_of_le zl hW.size⟩
  have HBR : Hid (MR enBk 3 mkBk (fun _ => True) w (.slice (some ⟨g, o, none⟩) (bl.length + 16) c)) := by
    refine ⟨rs, g, o, c, by rw [h.ln], trivial, ?_⟩
    have q := h.hs.brow
    rw [h.r6, List.length_append, mks_length] at q
    rw [h.ln] at q ⊢
    exact q
  have hn4 := h.c4
  have hn5 := h.c5
  rw [hn4] at HP L4 l4
  rw [hn5] at HP L5 l5
  have HL2 := hide L2
  have HL3 := hide L3
  have HL4 := hide L4
  have HL5 := hide L5
  unfold maxLen at m2 m3 m4 m5
  obtain ⟨N2, hN2⟩ : ∃ N, Hid ((vs 2).length = N) := ⟨_, hide rfl⟩
  obtain ⟨N3, hN3⟩ : ∃ N, Hid ((vs 3).length = N) := ⟨_, hide rfl⟩
  obtain ⟨N5, hN5⟩ : ∃ N, Hid (bl.length = N) := ⟨_, hide rfl⟩
  rw [unhide hN2] at l2 HP HL2
  rw [unhide hN3] at l3 HP HL3
  rw [unhide hN5] at l4 l5 HP HL4 HL5 HBR
  clear L2 L3 L4 L5 z3 z4 z5 z6 z7 zf zl r2 r3 r4 r5 h hn4 hn5
  go_enter Try.func22, Try.ntmps22
  go_wp2_with fail
  go_loopg [3] N2 (fun gg t3 wr => ∃ (i : Nat), Hid (i + gg = N2) ∧ t3 = .int .i64 (i : Int) ∧ Hid (Below w.heap.size w wr))
  case atStart => exact ⟨0, by unfold Hid; omega, rfl, hide (Below.refl _ _)⟩
  case round =>
    obtain ⟨i, hi, rfl, hw⟩ := hrel
    obtain ⟨z3, z4, z5, z6, z7, zl⟩ := unhide HP _ (unhide hw)
    by_cases hlt : i < N2
    · obtain ⟨b, ob, u, ea, hb, hq, hcu⟩ := unhide HL2 i hlt
      subst ea
      obtain ⟨n, mg, mo, mc, eu, hm1, hm2, hm3, hmk⟩ := MR.mark zO (mk := mkO) (by unfold QT at hq; rw [if_pos rfl] at hq; exact hq)
      subst eu
      have k0 := hcu wr ((unhide hw).block b hb)
      have hs := (unhide hw).size
      have hbw : b < wr.heap.size := by omega
      have i0 : (0 : Int) ≤ (i : Int) := by omega
      have i1 : (i : Int) < (N2 : Int) := by omega
      have HCU := hide hcu
      have HMK := hide hmk
      unfold maxLen at hm2
      obtain ⟨G0, hG0⟩ : ∃ G0 : Nat, Hid (G0 = gk) := ⟨_, hide rfl⟩
      clear hcu hmk hq
      go_wp2_with fail
      clear z3 z4 z5 z6 z7 zl k0 hbw hs
      go_loopg [5] 16 (fun gg t5 wq => ∃ (j : Nat), Hid (j + gg = 16) ∧ t5 = .int .i64 (j : Int) ∧ Hid (Below w.heap.size w wq))
      case atStart => exact ⟨0, by unfold Hid; omega, rfl, hw⟩
      case round =>
        clear hw
        obtain ⟨j, hj, rfl, hw⟩ := hrel
        by_cases hjt : j < 16
        · obtain ⟨z3, z4, z5, z6, z7, zl⟩ := unhide HP _ (unhide hw)
          have k0 := unhide HCU wr ((unhide hw).block b hb)
          have hs := (unhide hw).size
          have hbw : b < wr.heap.size := by omega
          have hgw : mg < wr.heap.size := by omega
          have s0 := unhide HMK wr ((unhide hw).block mg hm3) j hjt 0 _ rfl
          have s1 := unhide HMK wr ((unhide hw).block mg hm3) j hjt 1 _ rfl
          have d1 := neqO0 (mkO j)
          unfold opV at d1
          simp only [mkO, Nat.add_zero] at d1 s0 s1
          have j0 : (0 : Int) ≤ (j : Int) := by omega
          have j1 : (j : Int) < 16 := by omega
          go_wp2_with fail
          clear z3 z4 z5 z6 z7 zl k0 hs hbw hgw s0 s1 d1
          go_roundg (gk - 1)
          case measure => have := unhide hj; omega
          case rel => exact ⟨j + 1, by have := unhide hj; unfold Hid; omega, by go_num, hw⟩
        · have hj16 : j = 16 := by have := unhide hj; omega
          subst hj16
          go_wp2_with fail
          go_roundg (G0 - 1)
          case measure => have h1 := unhide hG0; have h2 := unhide hi; omega
          case rel => exact ⟨i + 1, by have h1 := unhide hG0; have h2 := unhide hi; unfold Hid; omega, by go_num, hw⟩
    · have hiN : i = N2 := by have := unhide hi; omega
      clear hi hiN
      go_wp2_with fail
      clear z3 z4 z5 z6 z7 zl
      go_loopg [6] N3 (fun gg t6 wr => ∃ (i : Nat), Hid (i + gg = N3) ∧ t6 = .int .i64 (i : Int) ∧ Hid (Below w.heap.size w wr))
      case atStart => exact ⟨0, by unfold Hid; omega, rfl, hw⟩
      case round =>
        clear hw hlt
        obtain ⟨i, hi, rfl, hw⟩ := hrel
        obtain ⟨z3, z4, z5, z6, z7, zl⟩ := unhide HP _ (unhide hw)
        by_cases hlt : i < N3
        · obtain ⟨b, ob, u, ea, hb, hq, hcu⟩ := unhide HL3 i hlt
          subst ea
          obtain ⟨n, mg, mo, mc, eu, hm1, hm2, hm3, hmk⟩ := MR.mark zSh (mk := mkSh) (by unfold QT at hq; rw [if_neg (by decide), if_pos rfl] at hq; exact hq)
          subst eu
          have k0 := hcu wr ((unhide hw).block b hb)
          have hs := (unhide hw).size
          have hbw : b < wr.heap.size := by omega
          have i0 : (0 : Int) ≤ (i : Int) := by omega
          have i1 : (i : Int) < (N3 : Int) := by omega
          have HCU := hide hcu
          have HMK := hide hmk
          unfold maxLen at hm2
          obtain ⟨G0, hG0⟩ : ∃ G0 : Nat, Hid (G0 = gk) := ⟨_, hide rfl⟩
          clear hcu hmk hq
          go_wp2_with fail
          clear z3 z4 z5 z6 z7 zl k0 hbw hs
          go_loopg [8] 16 (fun gg t5 wq => ∃ (j : Nat), Hid (j + gg = 16) ∧ t5 = .int .i64 (j : Int) ∧ Hid (Below w.heap.size w wq))
          case atStart => exact ⟨0, by unfold Hid; omega, rfl, hw⟩
          case round =>
            clear hw
            obtain ⟨j, hj, rfl, hw⟩ := hrel
            by_cases hjt : j < 16
            · obtain ⟨z3, z4, z5, z6, z7, zl⟩ := unhide HP _ (unhide hw)
              have k0 := unhide HCU wr ((unhide hw).block b hb)
              have hs := (unhide hw).size
              have hbw : b < wr.heap.size := by omega
              have hgw : mg < wr.heap.size := by omega
              have s0 := unhide HMK wr ((unhide hw).block mg hm3) j hjt 0 _ rfl
              have s1 := unhide HMK wr ((unhide hw).block mg hm3) j hjt 1 _ rfl
              have s2 := unhide HMK wr ((unhide hw).block mg hm3) j hjt 2 _ rfl
              simp only [mkSh, Nat.add_zero] at s0 s1 s2
              have d1 : ((j : Int) != (j : Int)) = false := by simp
              have j0 : (0 : Int) ≤ (j : Int) := by omega
              have j1 : (j : Int) < 16 := by omega
              have HWX := hide (bl_past (unhide hw) (box1n wr (.cells #[.int .i64 (-7), .int .i64 (j : Int), .slice none 0 0] 68)))
              go_wp2_with fail
              clear z3 z4 z5 z6 z7 zl k0 hs hbw hgw s0 s1 s2 d1
              go_roundg (gk - 1)
              case measure => have := unhide hj; omega
              case rel => exact ⟨j + 1, by have := unhide hj; unfold Hid; omega, by go_num, HWX⟩
            · have hj16 : j = 16 := by have := unhide hj; omega
              subst hj16
              go_wp2_with fail
              go_roundg (G0 - 1)
              case measure => have h1 := unhide hG0; have h2 := unhide hi; omega
              case rel => exact ⟨i + 1, by have h1 := unhide hG0; have h2 := unhide hi; unfold Hid; omega, by go_num, hw⟩
        · have hiN : i = N3 := by have := unhide hi; omega
          clear hi hiN
          go_wp2_with fail
          clear z3 z4 z5 z6 z7 zl
          go_loopg [10] N5 (fun gg t10 wr => ∃ (i : Nat), Hid (i + gg = N5) ∧ t10 = .int .i64 (i : Int) ∧ Hid (Below w.heap.size w wr))
          case atStart => exact ⟨0, by unfold Hid; omega, rfl, hw⟩
          case round =>
            clear hw hlt
            obtain ⟨i, hi, rfl, hw⟩ := hrel
            obtain ⟨z3, z4, z5, z6, z7, zl⟩ := unhide HP _ (unhide hw)
            by_cases hlt : i < N5
            · obtain ⟨b, ob, u, ea, hb, hq, hcu⟩ := unhide HL5 i hlt
              subst ea
              obtain ⟨b', ob', u', ea', hb', hq', hcu'⟩ := unhide HL4 i hlt
              subst ea'
              obtain ⟨n, mg, mo, mc, eu, hm1, hm2, hm3, hmk⟩ := MR.mark zIn (mk := mkIn) (by unfold QT at hq; rw [if_neg (by decide), if_neg (by decide), if_neg (by decide)] at hq; exact hq)
              subst eu
              obtain ⟨n', mg', mo', mc', eu', hm1', hm2', hm3', hmk'⟩ := MR.mark zI (mk := mkN) (by unfold QT at hq'; rw [if_neg (by decide), if_neg (by decide), if_pos rfl] at hq'; exact hq')
              subst eu'
              have k0 := hcu wr ((unhide hw).block b hb)
              have k0' := hcu' wr ((unhide hw).block b' hb')
              have hs := (unhide hw).size
              have hbw : b < wr.heap.size := by omega
              have hbw' : b' < wr.heap.size := by omega
              have i0 : (0 : Int) ≤ (i : Int) := by omega
              have i1 : (i : Int) < (N5 : Int) := by omega
              have HCU := hide hcu
              have HMK := hide hmk
              have HCU' := hide hcu'
              have HMK' := hide hmk'
              unfold maxLen at hm2 hm2'
              obtain ⟨G0, hG0⟩ : ∃ G0 : Nat, Hid (G0 = gk) := ⟨_, hide rfl⟩
              clear hcu hmk hq hcu' hmk' hq'
              go_wp2_with fail
              clear z3 z4 z5 z6 z7 zl k0 hbw hs k0' hbw'
              go_loopg [13] 16 (fun gg t5 wq => ∃ (j : Nat), Hid (j + gg = 16) ∧ t5 = .int .i64 (j : Int) ∧ Hid (Below w.heap.size w wq))
              case atStart => exact ⟨0, by unfold Hid; omega, rfl, hw⟩
              case round =>
                clear hw
                obtain ⟨j, hj, rfl, hw⟩ := hrel
                by_cases hjt : j < 16
                · obtain ⟨z3, z4, z5, z6, z7, zl⟩ := unhide HP _ (unhide hw)
                  have k0 := unhide HCU wr ((unhide hw).block b hb)
                  have hs := (unhide hw).size
                  have hbw : b < wr.heap.size := by omega
                  have hgw : mg < wr.heap.size := by omega
                  have hM := unhide HMK wr ((unhide hw).block mg hm3) j hjt
                  have s0 := hM 0 _ rfl
                  have s1 := hM 1 _ rfl
                  have s2 := hM 2 _ rfl
                  have s3 := hM 3 _ rfl
                  have s4 := hM 4 _ rfl
                  have s5 := hM 5 _ rfl
                  have s6 := hM 6 _ rfl
                  have s7 := hM 7 _ rfl
                  simp only [mkIn, Nat.add_zero] at s0 s1 s2 s3 s4 s5 s6 s7
                  have d1 : ((j : Int) != (j : Int)) = false := by simp
                  have d2 : ((-7 - (j : Int)) != (-7 - (j : Int))) = false := by simp
                  have j0 : (0 : Int) ≤ (j : Int) := by omega
                  have j1 : (j : Int) < 16 := by omega
                  have HWX := hide (bl_past (unhide hw) (box1n wr (.cells #[.int .i64 (-7), .int .i64 0, .int .i64 0, .slice none 0 0, .int .i64 0, .int .i64 (j : Int), .int .i64 0, .slice none 0 0] 43)))
                  have k0' := unhide HCU' wr ((unhide hw).block b' hb')
                  have hbx : b' < wr.heap.size := by omega
                  have hgx : mg' < wr.heap.size := by omega
                  have q0 := unhide HMK' wr ((unhide hw).block mg' hm3') j hjt 0 _ rfl
                  simp only [mkN, Nat.add_zero, Nat.mul_one] at q0
                  clear hM
                  go_wp2_with fail
                  clear z3 z4 z5 z6 z7 zl k0 hs hbw hgw s0 s1 s2 s3 s4 s5 s6 s7 d1 d2 k0' hbx hgx q0
                  go_roundg (gk - 1)
                  case measure => have := unhide hj; omega
                  case rel => exact ⟨j + 1, by have := unhide hj; unfold Hid; omega, by go_num, HWX⟩
                · have hj16 : j = 16 := by have := unhide hj; omega
                  subst hj16
                  go_wp2_with fail
                  go_roundg (G0 - 1)
                  case measure => have h1 := unhide hG0; have h2 := unhide hi; omega
                  case rel => exact ⟨i + 1, by have h1 := unhide hG0; have h2 := unhide hi; unfold Hid; omega, by go_num, hw⟩
            · have hiN : i = N5 := by have := unhide hi; omega
              clear hi hiN
              obtain ⟨n, mg, mo, mc, eu, hm1, hm2, hm3, hmk⟩ := (unhide HBR).mark zBk
              have hn5 : n = N5 := by cases eu; rfl
              subst hn5
              cases eu
              have HMK := hide hmk
              unfold maxLen at hm2
              clear hmk
              go_wp2_with fail
              clear z3 z4 z5 z6 z7 zl
              go_loopg [16] 16 (fun gg t5 wq => ∃ (j : Nat), Hid (j + gg = 16) ∧ t5 = .int .i64 (j : Int) ∧ Hid (Below w.heap.size w wq))
              case atStart => exact ⟨0, by unfold Hid; omega, rfl, hw⟩
              case round =>
                clear hw
                obtain ⟨j, hj, rfl, hw⟩ := hrel
                by_cases hjt : j < 16
                · obtain ⟨z3, z4, z5, z6, z7, zl⟩ := unhide HP _ (unhide hw)
                  have hs := (unhide hw).size
                  have hgw : g < wr.heap.size := by omega
                  have hM := unhide HMK wr ((unhide hw).block g hm3) j hjt
                  have s0 := hM 0 _ rfl
                  have s1 := hM 1 _ rfl
                  have s2 := hM 2 _ rfl
                  simp only [mkBk, Nat.add_zero] at s0 s1 s2
                  have d2 : ((-7 - (j : Int)) != (-7 - (j : Int))) = false := by simp
                  have j0 : (0 : Int) ≤ (j : Int) := by omega
                  have j1 : (j : Int) < 16 := by omega
                  have HWX := hide (bl_past (unhide hw) (box1n wr (.cells #[.int .i64 (-7 - (j : Int)), .slice none 0 0, .slice none 0 0] 39)))
                  clear hM
                  go_wp2_with fail
                  clear z3 z4 z5 z6 z7 zl hs hgw s0 s1 s2 d2
                  go_roundg (gk - 1)
                  case measure => have := unhide hj; omega
                  case rel => exact ⟨j + 1, by have := unhide hj; unfold Hid; omega, by go_num, HWX⟩
                · have hj16 : j = 16 := by have := unhide hj; omega
                  subst hj16
                  go_wp2_with fail
                  go_ret
                  exact ⟨rfl, unhide hw⟩

set_option linter.unusedVariables false
set_option linter.unusedSimpArgs false
section
variable {w0 w w' : World} {p : Nat} {fn regs : Int} {bl : List Bk} {T : Nat → Nat} {rv : Nat → Value} {vs : Nat → List Value} {rs : List BkR} {g o c : Nat}
theorem HD.bel (h : HD w0 p fn regs bl T rv vs rs g o c w) (f : Below w.heap.size w w') : HD w0 p fn regs bl (tl T w.heap.size 0) rv vs rs g o c w' :=
  ⟨h.hs.below f 0, h.r6, h.ln, fun j b r hb hr => BkP.mv _ _ _ _ _ _ _ (h.el j b r hb hr) (Fr.of_below (S := fun _ => False) f) (fun k hk e => ⟨fun q => q, by rw [tl_lt _ _ hk]; exact e⟩), bl_past h.bw f, h.c4, h.c5, (by obtain ⟨X, hX, hP⟩ := h.xs; exact ⟨X, hX, hP.mv (Fr.of_below (S := fun _ => False) f) (fun k hk e _ => ⟨fun q => q, by rw [tl_lt _ _ hk]; exact e⟩)⟩), fun k hk => by rw [tl_lt _ _ (Nat.lt_of_lt_of_le hk h.bw.size)]; exact h.tk k hk⟩
/-- The blocks that were handed in can be read. -/
theorem HD.blocks (h : HD w0 p fn regs bl T rv vs rs g o c w) : BksV (fun _ => True) w bl (.slice (some ⟨g, o, none⟩) bl.length c) := by
  have q := h.hs.brow
  rw [h.r6, List.length_append, mks_length, h.ln] at q
  have q2 := q.upto rfl (k := bl.length) (by omega)
  rw [flt_take zBk, List.take_append_of_le_length (by rw [h.ln]; exact Nat.le_refl _), List.take_of_length_le (by rw [h.ln]; exact Nat.le_refl _)] at q2
  exact ⟨rs, h.ln, Rd.of_ro q2 (fun _ _ => trivial), fun i b r hb hr => BkP.mv _ _ _ _ _ _ _ (h.el i b r hb hr) (Fr.refl (fun _ => False) w) (fun k _ _ => ⟨fun q => q, trivial⟩)⟩
end
set_option maxRecDepth 100000 in
set_option maxHeartbeats 6400000 in
theorem keptR_any {w0 w : World} {p : Nat} {fn regs cf cr : Int} {bl : List Bk} {T : Nat → Nat} {rv : Nat → Value} {vs : Nat → List Value} {rs : List BkR} {g o c : Nat} {D : Nat → Prop} {blv : Value} (h : HD w0 p fn regs bl T rv vs rs g o c w) (hl : BksV D w bl blv) :
    Calls Try.prog 9 #[.pointer (some ⟨p, 0, none⟩), .agg #[.int .i64 cf, .int .i64 cr, blv]] w fun e w' => e = .returned (.bool true) ∧ Below w.heap.size w w' := by
  obtain ⟨a, acap, rfl, ha1, ha2⟩ := NV.shape hl
  obtain ⟨_, gcap, eg, hg1, hg2⟩ := NV.shape h.blocks
  cases eg
  have hg3 : bl.length + 16 ≤ c := by
    have q := h.hs.brow
    rw [h.r6, List.length_append, mks_length, h.ln] at q
    obtain ⟨_, _, e, q1, _⟩ := q.shape
    cases e
    exact q1
  have hbx := box1n w (.cells #[.int .i64 cf, .int .i64 cr, .slice a bl.length acap] 24)
  have hbk := heap_alloc_new w (.cells #[.int .i64 cf, .int .i64 cr, .slice a bl.length acap] 24)
  have HC11 := hide (fun W (hW : Below (w.alloc (.cells #[.int .i64 cf, .int .i64 cr, .slice a bl.length acap] 24)).heap.size (w.alloc (.cells #[.int .i64 cf, .int .i64 cr, .slice a bl.length acap] 24)) W) => marked_any (h.bel (bl_past hbx hW)))
  have HC12 := hide (fun W (hW : Below (w.alloc (.cells #[.int .i64 cf, .int .i64 cr, .slice a bl.length acap] 24)).heap.size (w.alloc (.cells #[.int .i64 cf, .int .i64 cr, .slice a bl.length acap] 24)) W) => sameBlocks_any (h.bel (bl_past hbx hW)).blocks (BksV.mv.bel hl (bl_past hbx hW)))
  have z7 := h.hs.cell.2.2.2.2.1
  have zl := h.hs.lt
  rw [h.r6] at z7
  have hS0 : ∀ W, Below (w.alloc (.cells #[.int .i64 cf, .int .i64 cr, .slice a bl.length acap] 24)).heap.size (w.alloc (.cells #[.int .i64 cf, .int .i64 cr, .slice a bl.length acap] 24)) W → W.cell? ⟨p, 7, none⟩ = some (.slice (some ⟨g, o, none⟩) (bl.length + 16) c) ∧ W.cell? ⟨w.heap.size, 2, none⟩ = some (.slice a bl.length acap) := fun W hW =>
    ⟨((bl_past hbx hW).cell (p := ⟨p, 7, none⟩) zl).trans z7, (blk_cells ((hW.block w.heap.size (by simp)).trans hbk)).1 2⟩
  have HS0 := hide hS0
  have HBX := hide hbx
  obtain ⟨L, hL⟩ : ∃ L, Hid (bl.length = L) := ⟨_, hide rfl⟩
  rw [unhide hL] at ha1 hg1 hg3 HC11 HC12 HS0 HBX ⊢
  unfold maxLen at ha2 hg2
  have n0 : (0 : Int) ≤ (L : Int) := by omega
  have n1 : (L : Int) ≤ (c : Int) := by omega
  clear h hl hbx hbk z7 hS0 zl
  go_enter Try.func9, Try.ntmps9
  go_wp2_with fail
  refine wp_region_held_drew (S := (fun W => W.cell? ⟨p, 7, none⟩ = some (.slice (some ⟨g, o, none⟩) (L + 16) c) ∧ W.cell? ⟨w.heap.size, 2, none⟩ = some (.slice a L acap))) (by kernel_rfl) (unhide HS0 _ (bl_drew _)) (fun hHeld => ?_)
  clear hHeld
  refine wpAnyH_take (i := 0) (oi := _) (v := .pointer (some ⟨p, 0, none⟩)) rfl (by kernel_rfl) (by kernel_rfl) (by kernel_rfl) (fun _ _ _ h => h) (Or.inl ⟨by rfl, (by intro w' hSw; obtain ⟨s0, s1⟩ := hSw; go_simp)⟩) (unhide HS0 _ (bl_drew _)) ?_
  go_simp
  refine wpAnyH_ready (rs := [1]) (by kernel_rfl) (by simp) ?_
  refine AllReadyH.cons (o := _) rfl (fun K hK => ?_) AllReadyH.nil
  go_simp
  refine (unhide HC11 _ (bl_drew _)).mono ?_
  rintro e w3 ⟨rfl, b3⟩
  have HB3 := hide (bl_past (bl_drew _) b3)
  clear b3
  go_simp
  refine hK.out _ _ (unhide HS0 _ (unhide HB3)) (fun _ => ?_)
  clear hK K
  go_simp
  refine wpAnyH_take (i := 2) (oi := _) (v := .bool true) rfl (by kernel_rfl) (by kernel_rfl) (by kernel_rfl) (fun _ _ _ h => h) (Or.inl ⟨by rfl, (by intro w' hSw; obtain ⟨s0, s1⟩ := hSw; go_simp)⟩) (unhide HS0 _ (unhide HB3)) ?_
  go_simp
  refine wpAnyH_take (i := 3) (oi := _) (v := .pointer (some ⟨p, 0, none⟩)) rfl (by kernel_rfl) (by kernel_rfl) (by kernel_rfl) (fun _ _ _ h => h) (Or.inl ⟨by rfl, (by intro w' hSw; obtain ⟨s0, s1⟩ := hSw; go_simp)⟩) (unhide HS0 _ (unhide HB3)) ?_
  go_simp
  refine wpAnyH_take (i := 4) (oi := _) (v := .pointer (some ⟨p, 0, none⟩)) rfl (by kernel_rfl) (by kernel_rfl) (by kernel_rfl) (fun _ _ _ h => h) (Or.inl ⟨by rfl, (by intro w' hSw; obtain ⟨s0, s1⟩ := hSw; go_simp)⟩) (unhide HS0 _ (unhide HB3)) ?_
  go_simp
  refine wpAnyH_take (i := 5) (oi := _) (v := .pointer (some ⟨p, 7, none⟩)) rfl (by kernel_rfl) (by kernel_rfl) (by kernel_rfl) (fun _ _ _ h => h) (Or.inl ⟨by rfl, (by intro w' hSw; obtain ⟨s0, s1⟩ := hSw; go_simp)⟩) (unhide HS0 _ (unhide HB3)) ?_
  go_simp
  refine wpAnyH_take (i := 6) (oi := _) (v := .slice (some ⟨g, o, none⟩) (L + 16) c) rfl (by kernel_rfl) (by kernel_rfl) (by kernel_rfl) (fun _ _ _ h => h) (Or.inl ⟨by rfl, (by intro w' hSw; obtain ⟨s0, s1⟩ := hSw; go_simp)⟩) (unhide HS0 _ (unhide HB3)) ?_
  go_simp
  refine wpAnyH_take (i := 7) (oi := _) (v := .pointer (some ⟨w.heap.size, 2, none⟩)) rfl (by kernel_rfl) (by kernel_rfl) (by kernel_rfl) (fun _ _ _ h => h) (Or.inl ⟨by rfl, (by intro w' hSw; obtain ⟨s0, s1⟩ := hSw; go_simp)⟩) (unhide HS0 _ (unhide HB3)) ?_
  go_simp
  refine wpAnyH_take (i := 8) (oi := _) (v := .slice a L acap) rfl (by kernel_rfl) (by kernel_rfl) (by kernel_rfl) (fun _ _ _ h => h) (Or.inl ⟨by rfl, (by intro w' hSw; obtain ⟨s0, s1⟩ := hSw; go_simp)⟩) (unhide HS0 _ (unhide HB3)) ?_
  go_simp
  refine wpAnyH_take (i := 9) (oi := _) (v := .int .i64 (L : Int)) rfl (by kernel_rfl) (by kernel_rfl) (by kernel_rfl) (fun _ _ _ h => h) (Or.inl ⟨by rfl, (by intro w' hSw; obtain ⟨s0, s1⟩ := hSw; go_simp)⟩) (unhide HS0 _ (unhide HB3)) ?_
  go_simp
  refine wpAnyH_take (i := 10) (oi := _) (v := .slice (some ⟨g, o, none⟩) L c) rfl (by kernel_rfl) (by kernel_rfl) (by kernel_rfl) (fun _ _ _ h => h) (Or.inl ⟨by rfl, (by intro w' hSw; obtain ⟨s0, s1⟩ := hSw; go_simp)⟩) (unhide HS0 _ (unhide HB3)) ?_
  go_simp
  refine wpAnyH_take (i := 11) (oi := _) (v := .pointer (some ⟨w.heap.size, 2, none⟩)) rfl (by kernel_rfl) (by kernel_rfl) (by kernel_rfl) (fun _ _ _ h => h) (Or.inl ⟨by rfl, (by intro w' hSw; obtain ⟨s0, s1⟩ := hSw; go_simp)⟩) (unhide HS0 _ (unhide HB3)) ?_
  go_simp
  refine wpAnyH_take (i := 12) (oi := _) (v := .slice a L acap) rfl (by kernel_rfl) (by kernel_rfl) (by kernel_rfl) (fun _ _ _ h => h) (Or.inl ⟨by rfl, (by intro w' hSw; obtain ⟨s0, s1⟩ := hSw; go_simp)⟩) (unhide HS0 _ (unhide HB3)) ?_
  go_simp
  refine wpAnyH_ready (rs := [13]) (by kernel_rfl) (by simp) ?_
  refine AllReadyH.cons (o := _) rfl (fun K hK => ?_) AllReadyH.nil
  go_simp
  refine (unhide HC12 _ (unhide HB3)).mono ?_
  rintro e w4 ⟨rfl, b4⟩
  have HB4 := hide (bl_past (unhide HB3) b4)
  clear b4
  go_simp
  refine hK.out _ _ (unhide HS0 _ (unhide HB4)) (fun _ => ?_)
  clear hK K
  go_simp
  refine wpAnyH_take (i := 14) (oi := _) (v := .bool true) rfl (by kernel_rfl) (by kernel_rfl) (by kernel_rfl) (fun _ _ _ h => h) (Or.inl ⟨by rfl, (by intro w' hSw; obtain ⟨s0, s1⟩ := hSw; go_simp)⟩) (unhide HS0 _ (unhide HB4)) ?_
  go_simp
  refine wpAnyH_take (i := 15) (oi := _) (v := .bool true) rfl (by kernel_rfl) (by kernel_rfl) (by kernel_rfl) (fun _ _ _ h => h) (Or.inl ⟨by rfl, (by intro w' hSw; obtain ⟨s0, s1⟩ := hSw; go_simp)⟩) (unhide HS0 _ (unhide HB4)) ?_
  go_simp
  refine wpAnyH_done (by kernel_rfl) ?_ _
  go_wp2_with fail
  go_ret
  exact ⟨rfl, bl_past (unhide HBX) (unhide HB4)⟩

set_option linter.unusedVariables false
set_option linter.unusedSimpArgs false
theorem flt_TB' (X : List TB) : flt enTB X = flt enBk (X.map Prod.fst) := by
  induction X with
  | nil => rfl
  | cons p r ih => simp only [flt, List.flatMap_cons, List.map_cons] at ih ⊢; rw [ih]; rfl
theorem HD.own {w0 w : World} {p : Nat} {fn regs : Int} {bl : List Bk} {T : Nat → Nat} {rv : Nat → Value} {vs : Nat → List Value} {rs : List BkR} {g o c : Nat} (h : HD w0 p fn regs bl T rv vs rs g o c w) :
    ∃ X, OW enTB 3 (PB w0.heap.size) blB (fun k => w0.heap.size ≤ k) w (.slice (some ⟨g, o, none⟩) bl.length c) bl X := by
  obtain ⟨X, hX, hP⟩ := h.xs
  have hXl : X.length = bl.length + 16 := by
    have := congrArg List.length hX
    rw [List.length_map, List.length_append, mks_length, h.ln] at this
    exact this
  have q := h.hs.brow
  rw [h.r6, ← hX, ← flt_TB', List.length_map, hXl] at q
  have hg6 : T g = 6 := h.hs.tag 6 (by omega) (by omega) g (by rw [h.r6]; rfl)
  have hg : w0.heap.size ≤ g := by
    by_cases e : g < w0.heap.size
    · have := h.tk g e; omega
    · omega
  have q2 := q.upto rfl (k := bl.length) (by omega)
  rw [flt_take zTB] at q2
  have hP2 := hP.take bl.length
  have hl : (X.take bl.length).length = bl.length := by rw [List.length_take]; omega
  refine ⟨X.take bl.length, hl, q2, fun k hk => by cases hk; exact hg, fun i u x hu hx => hP2.el i u x hu hx, fun i x k hx hk => ?_, hP2.ap⟩
  have h1 := hP2.bt x k (List.mem_of_getElem? hx) hk
  refine ⟨by have := h1.2.1; show w0.heap.size ≤ k; omega, h1.2.2, fun e => ?_⟩
  have hk' : g = k := by cases e; rfl
  subst hk'
  have h7 := h1.1
  rw [hg6] at h7
  cases h7

set_option linter.unusedVariables false
set_option linter.unusedSimpArgs false

def putX (w : World) (g p : Nat) (r : InR) : World := (((((((w.setCell ⟨g, p, none⟩ (.int .i64 r.op)).setCell ⟨g, p + 1, none⟩ (.int .i64 r.code)).setCell ⟨g, p + 2, none⟩ (.int .i64 r.dst)).setCell ⟨g, p + 3, none⟩ r.av).setCell ⟨g, p + 4, none⟩ (.int .i64 r.n)).setCell ⟨g, p + 5, none⟩ (.int .i64 r.pc)).setCell ⟨g, p + 6, none⟩ (.int .i64 r.need)).setCell ⟨g, p + 7, none⟩ r.ev
theorem putX_fr (w : World) (g p : Nat) (r : InR) : Fr (fun q => q = g) w (putX w g p r) := by
  unfold putX
  exact Fr.setCell (S := fun q => q = g) (Fr.setCell (S := fun q => q = g) (Fr.setCell (S := fun q => q = g) (Fr.setCell (S := fun q => q = g) (Fr.setCell (S := fun q => q = g) (Fr.setCell (S := fun q => q = g) (Fr.setCell (S := fun q => q = g) (Fr.setCell (S := fun q => q = g) (Fr.refl _ w) ⟨g, p, none⟩ (.inr rfl) _) ⟨g, p + 1, none⟩ (.inr rfl) _) ⟨g, p + 2, none⟩ (.inr rfl) _) ⟨g, p + 3, none⟩ (.inr rfl) _) ⟨g, p + 4, none⟩ (.inr rfl) _) ⟨g, p + 5, none⟩ (.inr rfl) _) ⟨g, p + 6, none⟩ (.inr rfl) _) ⟨g, p + 7, none⟩ (.inr rfl) _
theorem Ro.putI {w : World} {v : Value} {n g off cap k : Nat} {ts : List TI} {t0 : TI} (h : Ro w 8 v n (flt enT ts)) (e : v = .slice (some ⟨g, off, none⟩) n cap) (hk : ts[k]? = some t0) (t : TI) :
    Ro (putX w g (off + k * 8) t.1) 8 v n (flt enT (ts.set k t)) := by
  have hkl := (List.getElem?_eq_some_iff.1 hk).1
  have hs : ∀ a : TI, (ts.set k a)[k]? = some a := fun a => List.getElem?_set_self hkl
  obtain ⟨⟨q0, q1, q2, q3, q4, q5, q6, q7⟩, l0⟩ := t0
  obtain ⟨⟨r0, r1, r2, r3, r4, r5, r6, r7⟩, l1⟩ := t
  have h0 := (h.put1 zT e (c := 0) (x' := ((⟨r0, q1, q2, q3, q4, q5, q6, q7⟩, l1) : TI)) (u := .int .i64 r0) hk (by omega) rfl).1
  have h1 := (h0.put1 zT e (c := 1) (x' := ((⟨r0, r1, q2, q3, q4, q5, q6, q7⟩, l1) : TI)) (u := .int .i64 r1) (hs _) (by omega) rfl).1
  rw [List.set_set] at h1
  have h2 := (h1.put1 zT e (c := 2) (x' := ((⟨r0, r1, r2, q3, q4, q5, q6, q7⟩, l1) : TI)) (u := .int .i64 r2) (hs _) (by omega) rfl).1
  rw [List.set_set] at h2
  have h3 := (h2.put1 zT e (c := 3) (x' := ((⟨r0, r1, r2, r3, q4, q5, q6, q7⟩, l1) : TI)) (u := r3) (hs _) (by omega) rfl).1
  rw [List.set_set] at h3
  have h4 := (h3.put1 zT e (c := 4) (x' := ((⟨r0, r1, r2, r3, r4, q5, q6, q7⟩, l1) : TI)) (u := .int .i64 r4) (hs _) (by omega) rfl).1
  rw [List.set_set] at h4
  have h5 := (h4.put1 zT e (c := 5) (x' := ((⟨r0, r1, r2, r3, r4, r5, q6, q7⟩, l1) : TI)) (u := .int .i64 r5) (hs _) (by omega) rfl).1
  rw [List.set_set] at h5
  have h6 := (h5.put1 zT e (c := 6) (x' := ((⟨r0, r1, r2, r3, r4, r5, r6, q7⟩, l1) : TI)) (u := .int .i64 r6) (hs _) (by omega) rfl).1
  rw [List.set_set] at h6
  have h7 := (h6.put1 zT e (c := 7) (x' := ((⟨r0, r1, r2, r3, r4, r5, r6, r7⟩, l1) : TI)) (u := r7) (hs _) (by omega) rfl).1
  rw [List.set_set] at h7
  exact h7
theorem flt_same {T : Type} {en : T → List Value} {xs : List T} {i : Nat} {x x' : T} (hx : xs[i]? = some x) (he : en x' = en x) : flt en (xs.set i x') = flt en xs := by
  have hi := (List.getElem?_eq_some_iff.1 hx).1
  have e : (xs.set i x').map en = xs.map en := by
    refine List.ext_getElem? (fun j => ?_)
    rw [List.getElem?_map, List.getElem?_map]
    by_cases q : i = j
    · subst q
      rw [List.getElem?_set_self hi, hx]
      simp [he]
    · rw [List.getElem?_set_ne q]
  unfold flt
  rw [List.flatMap_def, List.flatMap_def, e]
theorem CiT.put {W W1 : World} {b : Nat} {Z : Nat → Prop} {v : Value} {us : List Bk} {XD : List TB} {i k g off cap : Nat} {u : Bk} {x : TB} {y0 y : RIn} {r : InR} (h : OW enTB 3 (PB b) blB Z W v us XD) (hu : us[i]? = some u) (hx : XD[i]? = some x) (hk : u.ins[k]? = some y0) (hc : CiT W y r W1) (hZ : ∀ q, W.heap.size ≤ q → Z q) (hbW : b < W.heap.size) (e : x.1.iv = .slice (some ⟨g, off, none⟩) u.ins.length cap) :
    ∃ t2, OW enTB 3 (PB b) blB Z (putX W1 g (off + k * 8) r) v (us.set i ⟨u.pc, u.ins.set k y, u.nx⟩) (XD.set i (x.1, t2)) := by
  obtain ⟨t, rfl, hb, hI, hbl⟩ := hc
  have h1 := h.below (stayB b) hb
  have hP0 := h.el i u x hu hx
  have hP := h1.el i u x hu hx
  have s1 := hb.size
  have f := putX_fr W1 g (off + k * 8) t.1
  have sf := f.size
  have hkl := (List.getElem?_eq_some_iff.1 hk).1
  obtain ⟨t0, ht0⟩ : ∃ t0, x.2[k]? = some t0 := ⟨_, List.getElem?_eq_getElem (by rw [hP.ow.len]; exact hkl)⟩
  have hgo : x.1.iv.ownBlock = some g := by rw [e]; rfl
  have hgW : g < W.heap.size := hP0.ow.row.lt g hgo
  have hxW : ∀ q, blB x q → Z q ∧ q < W.heap.size ∧ v.ownBlock ≠ some q := fun q hq => h.eb i x q hx hq
  have hset : ∀ z ∈ x.2.set k t, z ∈ x.2 ∨ z = t := fun z hz => List.mem_or_eq_of_mem_set hz
  have inner : OW enT 8 InT blT (fun q => b < q) (putX W1 g (off + k * 8) t.1) x.1.iv (u.ins.set k y) (x.2.set k t) := by
    refine OW.setX stayT hP.ow ht0 f (fun q hq => .inl (by have e' : q = g := hq; rw [e']; exact hgo)) (Ro.putI hP.ow.row e ht0 t) (stayT _ _ _ _ _ hI f (fun q hq e2 => by have := hbl q hq; have e' : q = g := e2; omega)) (fun q hq => ?_) (fun j z q hj hz hq hq2 => ?_)
    · have a := hbl q hq
      have a2 := hI.lt hq
      exact ⟨by show b < q; omega, by omega, fun e2 => by rw [hgo] at e2; cases e2; omega⟩
    · have a := hbl q hq
      have a2 := (hP0.ow.eb j z q hz hq2).2.1
      omega
  refine ⟨x.2.set k t, OW.setX (stayB b) h1 hx f (fun q hq => .inr (.inl (by have e' : q = g := hq; rw [e']; exact hgo))) ?_ ⟨hP.pc, inner, hP.nx.fr f (fun q hq e2 => by have e' : q = g := e2; subst e'; exact (hP.nb q hq).2.1 hgo), fun q hq => ⟨(hP.nb q hq).1, (hP.nb q hq).2.1, fun z hz e2 => ?_⟩⟩ (fun q hq => ?_) (fun j z q hj hz hq hq2 => ?_)⟩
  · rw [flt_same hx (x' := (x.1, x.2.set k t)) rfl]
    exact h1.row.fr f (fun q hq e2 => by have e' : q = g := e2; subst e'; exact (hxW q (.inl hgo)).2.2 hq)
  · rcases hset z hz with r1 | r1
    · exact (hP.nb q hq).2.2 z r1 e2
    · subst r1
      have a := hbl q e2
      have a2 := (hxW q (.inr (.inr hq))).2.1
      omega
  · rcases hq with q1 | ⟨z, hz, q1⟩ | q1
    · have a := hxW q (.inl q1)
      exact ⟨a.1, by omega, a.2.2⟩
    · rcases hset z hz with r1 | r1
      · have a := hxW q (.inr (.inl ⟨z, r1, q1⟩))
        exact ⟨a.1, by omega, a.2.2⟩
      · subst r1
        have a := hbl q q1
        have a2 := hI.lt q1
        exact ⟨hZ q a, by omega, fun e2 => by have := h.row.lt q e2; omega⟩
    · have a := hxW q (.inr (.inr q1))
      exact ⟨a.1, by omega, a.2.2⟩
  · rcases hq with q1 | ⟨z2, hz2, q1⟩ | q1
    · exact h.ap i j x z q (fun e2 => hj e2.symm) hx hz (.inl q1) hq2
    · rcases hset z2 hz2 with r1 | r1
      · exact h.ap i j x z q (fun e2 => hj e2.symm) hx hz (.inr (.inl ⟨z2, r1, q1⟩)) hq2
      · subst r1
        have a := hbl q q1
        have a2 := (h.eb j z q hz hq2).2.1
        omega
    · exact h.ap i j x z q (fun e2 => hj e2.symm) hx hz (.inr (.inr q1)) hq2
/-- While instructions are written into a code of one's own. -/
structure SW (b L lo hi : Nat) (bl : List Bk) (v : Value) (WB : World) (us : List Bk) (XD : List TB) (W : World) : Prop where
  fr : Fr (fun q => lo ≤ q ∧ q < hi) WB W
  ow : OW enTB 3 (PB b) blB (fun q => lo ≤ q) W v us XD
  iv : ∀ x ∈ XD, ∀ q, x.1.iv.ownBlock = some q → lo ≤ q ∧ q < hi
  len : us.length = L
  ok : ∀ u ∈ us, OkL u
  same : ∀ (i : Nat) (u : Bk), us[i]? = some u → ∃ u0, bl[i]? = some u0 ∧ u.ins.length = u0.ins.length
theorem SW.on {b L lo hi : Nat} {bl : List Bk} {v : Value} {WB W W2 : World} {us : List Bk} {XD : List TB} (h : SW b L lo hi bl v WB us XD W) (k : Below W.heap.size W W2) : SW b L lo hi bl v WB us XD W2 :=
  ⟨h.fr.trx (Fr.of_below (S := fun _ => False) k) (fun _ _ e => e.elim), h.ow.below (stayB b) k, h.iv, h.len, h.ok, h.same⟩
theorem SW.put {b L lo hi : Nat} {bl : List Bk} {v : Value} {WB W W1 : World} {us : List Bk} {XD : List TB} (h : SW b L lo hi bl v WB us XD W) {i k g off cap : Nat} {u : Bk} {x : TB} {y0 y : RIn} {r : InR} (hu : us[i]? = some u) (hx : XD[i]? = some x) (hk : u.ins[k]? = some y0) (hc : CiT W y r W1) (hbW : b < W.heap.size) (hlo : lo ≤ W.heap.size) (e : x.1.iv = .slice (some ⟨g, off, none⟩) u.ins.length cap) (hy : y.args.length ≤ 1048576 ∧ y.ex.length ≤ 1048576 ∧ ∀ s ∈ y.ex, s.sl.length ≤ 1048576) :
    ∃ us' XD', SW b L lo hi bl v WB us' XD' (putX W1 g (off + k * 8) r) := by
  obtain ⟨t2, ho⟩ := CiT.put h.ow hu hx hk hc (fun q hq => by show lo ≤ q; omega) hbW e
  have hb := hc.bel
  have hgo : x.1.iv.ownBlock = some g := by rw [e]; rfl
  have hgi := h.iv x (List.mem_of_getElem? hx) g hgo
  refine ⟨_, _, ?_, ho, fun z hz q hq => ?_, by rw [List.length_set]; exact h.len, fun z hz => ?_, fun j z hz => ?_⟩
  · exact (h.fr.trx (Fr.of_below (S := fun _ => False) hb) (fun _ _ e => e.elim)).trx (putX_fr W1 g (off + k * 8) r) (fun q _ e2 => by have e' : q = g := e2; subst e'; exact hgi)
  · rcases List.mem_or_eq_of_mem_set hz with r1 | r1
    · exact h.iv z r1 q hq
    · subst r1
      exact h.iv x (List.mem_of_getElem? hx) q hq
  · rcases List.mem_or_eq_of_mem_set hz with r1 | r1
    · exact h.ok z r1
    · subst r1
      obtain ⟨o1, o2, o3⟩ := h.ok u (List.mem_of_getElem? hu)
      refine ⟨by simpa using o1, o2, fun z hz => ?_⟩
      rcases List.mem_or_eq_of_mem_set hz with r2 | r2
      · exact o3 z r2
      · subst r2; exact hy
  · by_cases q : i = j
    · subst q
      rw [List.getElem?_set_self (List.getElem?_eq_some_iff.1 hu).1] at hz
      cases hz
      obtain ⟨u0, h1, h2⟩ := h.same i u hu
      exact ⟨u0, h1, by simpa using h2⟩
    · rw [List.getElem?_set_ne q] at hz
      exact h.same j z hz

set_option linter.unusedVariables false
set_option linter.unusedSimpArgs false

structure LrS (w : World) (cs : List (Nat × Array Value × TypeId)) (us nl kl : List Bk) (iv nv av wv : Value) (V : World) : Prop where
  bx : BX w cs V
  i : BksV Tr V us iv
  n : BksV Tr V nl nv
  a : BksV Tr V kl av
  wt : BksV Tr V kl wv
theorem LrS.on {w : World} {cs : List (Nat × Array Value × TypeId)} {us nl kl : List Bk} {iv nv av wv : Value} {V V' : World} (h : LrS w cs us nl kl iv nv av wv V) (b : Below V.heap.size V V') : LrS w cs us nl kl iv nv av wv V' :=
  ⟨h.bx.go b, BksV.mv.bel h.i b, BksV.mv.bel h.n b, BksV.mv.bel h.a b, BksV.mv.bel h.wt b⟩
theorem kepC_okL {bl : List Bk} (h : ∀ b ∈ bl, OkL b) : ∀ b ∈ kepC bl, OkL b := fun b hb => by
  obtain ⟨i, hi, rfl⟩ := List.getElem_of_mem hb
  have hil : i < bl.length := by rw [kepC_len] at hi; exact hi
  have q := kepC_at (List.getElem?_eq_getElem hil)
  rw [List.getElem?_eq_getElem hi] at q
  rw [Option.some.inj q]
  obtain ⟨h2, h3, h4⟩ := h _ (List.getElem_mem hil)
  exact ⟨Nat.le_trans (kepL_le _ _).1 h2, h3, fun x hx => h4 x (kepL_mem hx)⟩
theorem OkL.s {b : Bk} (h : OkL b) : OkS b := ⟨h.1, h.2.1, h.2.2⟩
set_option maxRecDepth 100000 in
set_option maxHeartbeats 25600000 in
theorem runLaw {w : World} {fn regs ofn oregs : Int} {bl ol : List Bk} {v ov : Value} (h : BksV (fun k => k < w.heap.size) w bl v) (hO : ∀ b ∈ bl, OkB b) (hN : bl.length ≤ 1048576) (hW : bkW bl ≤ 1048576) (h' : BksV (fun k => k < w.heap.size) w ol ov) (hO' : ∀ b ∈ ol, OkB b) (hN' : ol.length ≤ 1048576) :
    Calls Try.prog 3 #[.agg #[.int .i64 fn, .int .i64 regs, v], .agg #[.int .i64 ofn, .int .i64 oregs, ov]] w fun e w' => e = .returned (.bool true) ∧ Below w.heap.size w w' := by
  obtain ⟨a, c, rfl, ha1, ha2⟩ := NV.shape h
  obtain ⟨oa, oc, rfl, hoa1, hoa2⟩ := NV.shape h'
  obtain ⟨L, hL⟩ : ∃ L, Hid (bl.length = L) := ⟨_, hide rfl⟩
  obtain ⟨M, hM⟩ : ∃ M, Hid (ol.length = M) := ⟨_, hide rfl⟩
  rw [unhide hL] at h hN ha1 ⊢
  rw [unhide hM] at h' hN' hoa1 ⊢
  have HLM : Hid ((kepC bl).length = L) := by unfold Hid; rw [kepC_len]; exact unhide hL
  have HOT : Hid (∀ b ∈ kepC bl, OkB b) := kepC_ok hO
  have HO := hide hO
  have HOO := hide hO'
  have HOL : Hid (∀ b ∈ bl, OkL b) := fun b hb => (hO b hb).l
  have HWB := hide hW
  have HOT' := hide h'
  have B0 := BX.two w #[.int .i64 fn, .int .i64 regs, .slice a L c] #[.int .i64 ofn, .int .i64 oregs, .slice oa M oc] 24 24
  obtain ⟨W0, hW0⟩ : ∃ W0, Hid ((w.alloc (.cells #[.int .i64 fn, .int .i64 regs, .slice a L c] 24)).alloc (.cells #[.int .i64 ofn, .int .i64 oregs, .slice oa M oc] 24) = W0) := ⟨_, hide rfl⟩
  rw [unhide hW0] at B0
  have H0 := hide B0
  have HI := hide (BksV.mv.bel h B0.b)
  have hW0' := unhide hW0
  have HC5 := hide (refRun_any (fn := fn) (regs := regs) (unhide HI) (unhide HOL) (by rw [unhide hL]; exact hN))
  unfold maxLen at ha2 hoa2
  clear h hO hW h' hO' B0
  have x0 := (unhide H0).ce 0 rfl 0
  have x1 := (unhide H0).ce 0 rfl 1
  have x2 := (unhide H0).ce 0 rfl 2
  have xl := (unhide H0).lt (i := 0) rfl
  simp at x0 x1 x2 xl
  go_enter Try.func3, Try.ntmps3
  go_wp2_with fail
  clear hW0' hW0 x0 x1 x2 xl
  refine (unhide HC5).mono ?_
  rintro e W1 hA
  obtain ⟨aw, cw, Tw, rfl, q1, q2, b1, ow⟩ := hA.at
  have kw := BksV.of_ow ow
  rw [unhide HLM] at kw q1 ow ⊢
  have H1 := hide (((unhide H0).go b1).add #[.int .i64 fn, .int .i64 regs, .slice aw L cw] 24)
  obtain ⟨W2, hW2⟩ : ∃ W2, Hid (W1.alloc (.cells #[.int .i64 fn, .int .i64 regs, .slice aw L cw] 24) = W2) := ⟨_, hide rfl⟩
  have b2 : Below W1.heap.size W1 W2 := by rw [← unhide hW2]; exact box1n W1 _
  have hs12 : W2.heap.size = W1.heap.size + 1 := by rw [← unhide hW2]; simp
  have HKW := hide (BksV.lt (BksV.mv.bel kw b2) W2.heap.size (Nat.le_refl _))
  have HI2 := hide (BksV.mv.bel (BksV.mv.bel (unhide HI) b1) b2)
  have hs0 := (unhide H0).lt (i := 1) rfl
  have hs01 := b1.size
  simp at hs0
  rw [unhide hW2] at H1
  simp only [List.nil_append, List.cons_append] at H1
  have HC6 := hide (handCode_any (fn := fn) (regs := regs) (w := W2) (BksV.lt (unhide HI2) _ (Nat.le_refl _)) (by rw [unhide hL]; omega) (fun b hb => by
    obtain ⟨q1, q2, q3, q4⟩ := unhide HO b hb
    exact ⟨by omega, by omega, fun x hx => ⟨by have := (q4 x hx).1; omega, by have := (q4 x hx).2.1; omega, fun s hs => by have := (q4 x hx).2.2 s hs; omega⟩⟩) (by have := unhide HWB; omega) (by have := unhide HWB; have := bkI_W bl; omega))
  have x0 := (unhide H1).ce 0 rfl 0
  have x1 := (unhide H1).ce 0 rfl 1
  have x2 := (unhide H1).ce 0 rfl 2
  have xl := (unhide H1).lt (i := 0) rfl
  simp at x0 x1 x2 xl
  have hW2' := unhide hW2
  clear b1 b2 kw ow hA HI H0 HC5
  go_wp2_with fail
  refine (unhide HC6).mono ?_
  rintro e W4 ⟨TG, rv, vs, rs, g, o, cg, rfl, hD⟩
  clear HC6 x0 x1 x2 xl hW2' hW2
  have hb4 := hD.bw
  have H4 := hide ((unhide H1).go hb4)
  have HKW4 := hide (BksV.mv.bel (unhide HKW) hb4)
  have HI4 := hide (BksV.mv.bel (unhide HI2) hb4)
  have hgb := hD.blocks
  have hgc : bl.length ≤ cg := by obtain ⟨_, _, e, q, _⟩ := NV.shape hgb; cases e; exact q
  have hgm : cg ≤ maxLen := by obtain ⟨_, _, e, _, q⟩ := NV.shape hgb; cases e; exact q
  rw [unhide hL] at hgc
  unfold maxLen at hgm
  obtain ⟨XD, hXD⟩ := hD.own
  rw [unhide hL] at hXD
  have hbx := hD.hs.box
  rw [unhide hL] at hbx
  have hs24 := hb4.size
  obtain ⟨P, hP⟩ : ∃ P, Hid (W2.heap.size + 1 = P) := ⟨_, hide rfl⟩
  have HD4 := hide hD
  rw [unhide hP] at hbx HD4 ⊢
  have x0 := (blk_cells hbx).1 0
  have x1 := (blk_cells hbx).1 1
  have x2 := (blk_cells hbx).1 2
  have xl := (blk_cells hbx).2.2
  simp at x0 x1 x2
  have H5 := hide ((unhide H4).add #[.int .i64 fn, .int .i64 regs, .slice (some ⟨g, o, none⟩) L cg] 24)
  obtain ⟨W5, hW5⟩ : ∃ W5, Hid (W4.alloc (.cells #[.int .i64 fn, .int .i64 regs, .slice (some ⟨g, o, none⟩) L cg] 24) = W5) := ⟨_, hide rfl⟩
  have b5 : Below W4.heap.size W4 W5 := by rw [← unhide hW5]; exact box1n W4 _
  have hs45 : W5.heap.size = W4.heap.size + 1 := by rw [← unhide hW5]; simp
  rw [unhide hW5] at H5
  simp only [List.nil_append, List.cons_append] at H5
  have HXD5 := hide (hXD.below (stayB _) b5)
  have HKW5 := hide (BksV.mv.bel (unhide HKW4) b5)
  have HI5 := hide (BksV.mv.bel (unhide HI4) b5)
  have HD5 := hide ((unhide HD4).bel b5)
  have HSI : Hid (∀ q, ((.slice (some ⟨g, o, none⟩) L cg : Value).ownBlock = some q ∨ ∃ x ∈ XD, blB x q) → W2.heap.size ≤ q ∧ q < W4.heap.size) := fun q hq => hXD.in hq
  have HC7 := hide (run_any (fn := fn) (regs := regs) (BksV.of_ow (unhide HXD5)) (unhide HOL) (by rw [unhide hL]; exact hN))
  have y0 := (unhide H5).ce 3 rfl 0
  have y1 := (unhide H5).ce 3 rfl 1
  have y2 := (unhide H5).ce 3 rfl 2
  have yl := (unhide H5).lt (i := 3) rfl
  simp at y0 y1 y2 yl
  have hW5' := unhide hW5
  clear hD hb4 hgb hXD hbx H1 HKW HI2 HD4 HKW4 HI4 H4 b5
  go_wp2_with fail
  refine (unhide HC7).mono ?_
  rintro e W6 hA
  obtain ⟨a1, c1, T1, rfl, q5, q6, b6, o1⟩ := hA.at
  rw [unhide HLM] at q5 o1 ⊢
  clear HC7 x0 x1 x2 xl y0 y1 y2 yl hW5' hW5
  have H7 := hide (((unhide H5).go b6).add #[.int .i64 fn, .int .i64 regs, .slice a1 L c1] 24)
  obtain ⟨W7, hW7⟩ : ∃ W7, Hid (W6.alloc (.cells #[.int .i64 fn, .int .i64 regs, .slice a1 L c1] 24) = W7) := ⟨_, hide rfl⟩
  have b7 : Below W6.heap.size W6 W7 := by rw [← unhide hW7]; exact box1n W6 _
  have hs67 : W6.heap.size < W7.heap.size := by rw [← unhide hW7]; simp
  have hs56 := b6.size
  rw [unhide hW7] at H7
  simp only [List.nil_append, List.cons_append] at H7
  have bb : Below W5.heap.size W5 W7 := bl_past b6 b7
  have HXD7 := hide ((unhide HXD5).below (stayB _) bb)
  have HKW7 := hide (BksV.mv.bel (unhide HKW5) bb)
  have HI7 := hide (BksV.mv.bel (unhide HI5) bb)
  have HD7 := hide ((unhide HD5).bel bb)
  have HO1 := hide (o1.below (stayB 0) b7)
  have HC7 := hide (run_any (fn := fn) (regs := regs) (BksV.of_ow (unhide HXD7)) (unhide HOL) (by rw [unhide hL]; exact hN))
  have x0 := (unhide H7).ce 3 rfl 0
  have x1 := (unhide H7).ce 3 rfl 1
  have x2 := (unhide H7).ce 3 rfl 2
  have xl := (unhide H7).lt (i := 3) rfl
  simp at x0 x1 x2 xl
  have hW7' := unhide hW7
  clear b6 b7 bb o1 hA H5 HXD5 HKW5 HI5 HD5
  go_wp2_with fail
  refine (unhide HC7).mono ?_
  rintro e W8 hA
  obtain ⟨a2, c2, T2, rfl, q7, q8, b8, o2⟩ := hA.at
  rw [unhide HLM] at q7 o2 ⊢
  clear HC7 x0 x1 x2 xl hW7' hW7
  have H9 := hide (((unhide H7).go b8).add #[.int .i64 fn, .int .i64 regs, .slice a2 L c2] 24)
  obtain ⟨W9, hW9⟩ : ∃ W9, Hid (W8.alloc (.cells #[.int .i64 fn, .int .i64 regs, .slice a2 L c2] 24) = W9) := ⟨_, hide rfl⟩
  have b9 : Below W8.heap.size W8 W9 := by rw [← unhide hW9]; exact box1n W8 _
  have hs89 : W8.heap.size < W9.heap.size := by rw [← unhide hW9]; simp
  have hs78 := b8.size
  rw [unhide hW9] at H9
  simp only [List.nil_append, List.cons_append] at H9
  have bb : Below W7.heap.size W7 W9 := bl_past b8 b9
  have HXD9 := hide ((unhide HXD7).below (stayB _) bb)
  have HKW9 := hide (BksV.mv.bel (unhide HKW7) bb)
  have HI9 := hide (BksV.mv.bel (unhide HI7) bb)
  have HD9 := hide ((unhide HD7).bel bb)
  have HO19 := hide ((unhide HO1).below (stayB 0) bb)
  have HO29 := hide (o2.below (stayB 0) b9)
  have HC8 := hide (sameR_yes (fn := fn) (regs := regs) (BksV.of_ow (unhide HO19)) (unhide HKW9) (by rw [unhide HLM]; exact hN) (fun b hb => (unhide HOT b hb).s))
  have x0 := (unhide H9).ce 4 rfl 0
  have x1 := (unhide H9).ce 4 rfl 1
  have x2 := (unhide H9).ce 4 rfl 2
  have xl := (unhide H9).lt (i := 4) rfl
  have y0 := (unhide H9).ce 2 rfl 0
  have y1 := (unhide H9).ce 2 rfl 1
  have y2 := (unhide H9).ce 2 rfl 2
  have yl := (unhide H9).lt (i := 2) rfl
  simp at x0 x1 x2 xl y0 y1 y2 yl
  have hW9' := unhide hW9
  clear b8 b9 bb o2 hA H7 HXD7 HKW7 HI7 HD7 HO1
  go_wp2_with fail
  refine (unhide HC8).mono ?_
  rintro e WA ⟨rfl, bA⟩
  clear HC8 x0 x1 x2 xl y0 y1 y2 yl hW9' hW9
  have HA := hide ((unhide H9).go bA)
  have HXDA := hide ((unhide HXD9).below (stayB _) bA)
  have HKWA := hide (BksV.mv.bel (unhide HKW9) bA)
  have HIA := hide (BksV.mv.bel (unhide HI9) bA)
  have HDA := hide ((unhide HD9).bel bA)
  have HO1A := hide ((unhide HO19).below (stayB 0) bA)
  have HC8 := hide (sameR_yes (fn := fn) (regs := regs) (BksV.of_ow ((unhide HO29).below (stayB 0) bA)) (unhide HKWA) (by rw [unhide HLM]; exact hN) (fun b hb => (unhide HOT b hb).s))
  have x0 := (unhide HA).ce 5 rfl 0
  have x1 := (unhide HA).ce 5 rfl 1
  have x2 := (unhide HA).ce 5 rfl 2
  have xl := (unhide HA).lt (i := 5) rfl
  have y0 := (unhide HA).ce 2 rfl 0
  have y1 := (unhide HA).ce 2 rfl 1
  have y2 := (unhide HA).ce 2 rfl 2
  have yl := (unhide HA).lt (i := 2) rfl
  simp at x0 x1 x2 xl y0 y1 y2 yl
  have hs9A := bA.size
  clear bA H9 HXD9 HKW9 HI9 HD9 HO19 HO29
  go_wp2_with fail
  refine (unhide HC8).mono ?_
  rintro e WB ⟨rfl, bB⟩
  clear HC8 x0 x1 x2 xl y0 y1 y2 yl
  have HB := hide ((unhide HA).go bB)
  have HXDB := hide ((unhide HXDA).below (stayB _) bB)
  have HKWB := hide (BksV.mv.bel (unhide HKWA) bB)
  have HDB := hide ((unhide HDA).bel bB)
  have HO1B := hide ((unhide HO1A).below (stayB 0) bB)
  have HC9 := hide (keptR_any (cf := fn) (cr := regs) (unhide HDB) (BksV.mv.bel (unhide HIA) bB))
  have x0 := (unhide HB).ce 0 rfl 0
  have x1 := (unhide HB).ce 0 rfl 1
  have x2 := (unhide HB).ce 0 rfl 2
  have xl := (unhide HB).lt (i := 0) rfl
  simp at x0 x1 x2 xl
  have hsAB := bB.size
  clear bB HA HXDA HKWA HIA HDA HO1A
  go_wp2_with fail
  refine (unhide HC9).mono ?_
  rintro e WC ⟨rfl, bC⟩
  clear HC9 x0 x1 x2 xl
  have HC := hide ((unhide HB).go bC)
  have HXDC := hide ((unhide HXDB).below (stayB _) bC)
  have HKWC := hide (BksV.mv.bel (unhide HKWB) bC)
  have HO1C := hide ((unhide HO1B).below (stayB 0) bC)
  have hsBC := bC.size
  clear bC HB HXDB HKWB HDB HO1B
  have HFRC : Hid (∀ V, Fr (fun q => W2.heap.size ≤ q ∧ q < W4.heap.size) WC V → BX w [(w.heap.size, #[.int .i64 fn, .int .i64 regs, .slice a L c], (24 : TypeId)), (w.heap.size + 1, #[.int .i64 ofn, .int .i64 oregs, .slice oa M oc], 24), (W1.heap.size, #[.int .i64 fn, .int .i64 regs, .slice aw L cw], 24), (W4.heap.size, #[.int .i64 fn, .int .i64 regs, .slice (some ⟨g, o, none⟩) L cg], 24), (W6.heap.size, #[.int .i64 fn, .int .i64 regs, .slice a1 L c1], 24), (W8.heap.size, #[.int .i64 fn, .int .i64 regs, .slice a2 L c2], 24)] V ∧ BksV (fun k => k < W2.heap.size) V (kepC bl) (.slice aw L cw) ∧ BksV Tr V (kepC bl) (.slice a1 L c1)) := fun V f => by
    refine ⟨(unhide HC).fr f (fun i e he q => ?_) (fun b hb q => by omega), BksV.mv _ _ _ _ _ _ _ (unhide HKWC) f (fun k _ hk => ⟨fun q => by have hk' : k < W2.heap.size := hk; omega, hk⟩), BksV.of_ow (OW.frZ (stayB 0) (unhide HO1C) f (fun k _ hz q => by have hz' : W5.heap.size ≤ k := hz; omega))⟩
    match i, he with
    | 0, he => simp at he; subst he; simp only at q; omega
    | 1, he => simp at he; subst he; simp only at q; omega
    | 2, he => simp at he; subst he; simp only at q; omega
    | 3, he => simp at he; subst he; simp only at q; omega
    | 4, he => simp at he; subst he; simp only at q; omega
    | 5, he => simp at he; subst he; simp only at q; omega
    | (n + 6), he => simp at he
  have HSW : Hid (SW W2.heap.size L W2.heap.size W4.heap.size bl (.slice (some ⟨g, o, none⟩) L cg) WC bl XD WC) := ⟨Fr.refl _ _, unhide HXDC, fun x hx q hq => unhide HSI q (.inr ⟨x, hx, .inl hq⟩), unhide hL, unhide HOL, fun i u hu => ⟨u, hu, rfl⟩⟩
  have hsC : W4.heap.size < WC.heap.size := by omega
  clear HC HXDC HKWC HO1C
  go_wp2_with fail
  go_loopg [10] L (fun gg t10 wr => ∃ (i : Nat) (us : List Bk) (XD : List TB), Hid (i + gg = L) ∧ t10 = .int .i64 (i : Int) ∧ Hid (SW W2.heap.size L W2.heap.size W4.heap.size bl (.slice (some ⟨g, o, none⟩) L cg) WC us XD wr))
  case atStart => exact ⟨0, _, _, by unfold Hid; omega, rfl, HSW⟩
  case round =>
    clear HSW HSI
    obtain ⟨i, us, XD2, hi, rfl, hS⟩ := hrel
    obtain ⟨hBXr, hWTr, hA1r⟩ := unhide HFRC wr (unhide hS).fr
    have HBX := hide hBXr
    have i0 : (0 : Int) ≤ (i : Int) := by omega
    have x0 := hBXr.ce 3 rfl 0
    have x1 := hBXr.ce 3 rfl 1
    have x2 := hBXr.ce 3 rfl 2
    have xl := hBXr.lt (i := 3) rfl
    have y0 := hBXr.ce 1 rfl 0
    have y1 := hBXr.ce 1 rfl 1
    have y2 := hBXr.ce 1 rfl 2
    have yl := hBXr.lt (i := 1) rfl
    simp at x0 x1 x2 xl y0 y1 y2 yl
    by_cases hlt : i < L ∧ i < M
    case neg =>
      have HKU := hide (BksV.of_ow (unhide hS).ow)
      have HUL := hide (unhide hS).len
      have HUO := hide (unhide hS).ok
      have HAR := hide hA1r
      have HWR := hide (BksV.mv.wide hWTr (D' := Tr) (fun _ _ _ => trivial))
      clear hBXr hWTr hA1r
      have HC11 := hide (copyRegs_any (fn := fn) (regs := regs) (unhide HKU) (unhide HUO) (by rw [unhide HUL]; exact hN))
      by_cases hlL : i < L
      case neg =>
        have i1 : ¬ (i : Int) < (L : Int) := by omega
        go_wp2_with fail
        refine (unhide HC11).mono ?_
        rintro e V1 hA
        obtain ⟨ac, cc, Tc, rfl, r1, r2, bV1, oc1⟩ := hA.at
        rw [unhide HUL] at r1 oc1 ⊢
        have HC5 := hide (refRun_any (fn := fn) (regs := regs) (BksV.of_ow oc1) (unhide HUO) (by rw [unhide HUL]; exact hN))
        have HBX1 := hide ((unhide HBX).go bV1)
        have HKU1 := hide (BksV.mv.bel (unhide HKU) bV1)
        have HAR1 := hide (BksV.mv.bel (unhide HAR) bV1)
        have HWR1 := hide (BksV.mv.bel (unhide HWR) bV1)
        clear HC11 HBX HKU HAR HWR hA oc1 bV1 x0 x1 x2 xl y0 y1 y2 yl hS
        go_wp2_with fail
        refine (unhide HC5).mono ?_
        rintro e V2 hA
        obtain ⟨an, cn, Tn, rfl, r3, r4, bV2, on1⟩ := hA.at
        have HULK : Hid ((kepC us).length = L) := by unfold Hid; rw [kepC_len]; exact unhide HUL
        rw [unhide HULK] at r3 on1 ⊢
        have HBX3 := hide (((unhide HBX1).go bV2).add #[.int .i64 fn, .int .i64 regs, .slice an L cn] 24)
        obtain ⟨V3, hV3⟩ : ∃ V3, Hid (V2.alloc (.cells #[.int .i64 fn, .int .i64 regs, .slice an L cn] 24) = V3) := ⟨_, hide rfl⟩
        have bV3 : Below V2.heap.size V2 V3 := by rw [← unhide hV3]; exact box1n V2 _
        rw [unhide hV3] at HBX3
        simp only [List.nil_append, List.cons_append] at HBX3
        have bb := bl_past bV2 bV3
        have HSX : Hid (LrS w [(w.heap.size, #[.int .i64 fn, .int .i64 regs, .slice a L c], (24 : TypeId)), (w.heap.size + 1, #[.int .i64 ofn, .int .i64 oregs, .slice oa M oc], 24), (W1.heap.size, #[.int .i64 fn, .int .i64 regs, .slice aw L cw], 24), (W4.heap.size, #[.int .i64 fn, .int .i64 regs, .slice (some ⟨g, o, none⟩) L cg], 24), (W6.heap.size, #[.int .i64 fn, .int .i64 regs, .slice a1 L c1], 24), (W8.heap.size, #[.int .i64 fn, .int .i64 regs, .slice a2 L c2], 24), (V2.heap.size, #[.int .i64 fn, .int .i64 regs, .slice an L cn], 24)] us (kepC us) (kepC bl) (.slice (some ⟨g, o, none⟩) L cg) (.slice an L cn) (.slice a1 L c1) (.slice aw L cw) V3) := ⟨unhide HBX3, BksV.mv.bel (unhide HKU1) bb, BksV.mv.bel (BksV.of_ow on1) bV3, BksV.mv.bel (unhide HAR1) bb, BksV.mv.bel (unhide HWR1) bb⟩
        have hV3' := unhide hV3
        clear HC5 HBX1 HBX3 HKU1 HAR1 HWR1 hA on1 bV2 bV3 bb
        go_wp2_with fail
        clear hV3' hV3
        have HSD : Hid (LrS w [(w.heap.size, #[.int .i64 fn, .int .i64 regs, .slice a L c], (24 : TypeId)), (w.heap.size + 1, #[.int .i64 ofn, .int .i64 oregs, .slice oa M oc], 24), (W1.heap.size, #[.int .i64 fn, .int .i64 regs, .slice aw L cw], 24), (W4.heap.size, #[.int .i64 fn, .int .i64 regs, .slice (some ⟨g, o, none⟩) L cg], 24), (W6.heap.size, #[.int .i64 fn, .int .i64 regs, .slice a1 L c1], 24), (W8.heap.size, #[.int .i64 fn, .int .i64 regs, .slice a2 L c2], 24), (V2.heap.size, #[.int .i64 fn, .int .i64 regs, .slice an L cn], 24)] us (kepC us) (kepC bl) (.slice (some ⟨g, o, none⟩) L cg) (.slice an L cn) (.slice a1 L c1) (.slice aw L cw) V3.drew) := hide ((unhide HSX).on (bl_drew V3))
        refine wp_region_held_drew (S := LrS w [(w.heap.size, #[.int .i64 fn, .int .i64 regs, .slice a L c], (24 : TypeId)), (w.heap.size + 1, #[.int .i64 ofn, .int .i64 oregs, .slice oa M oc], 24), (W1.heap.size, #[.int .i64 fn, .int .i64 regs, .slice aw L cw], 24), (W4.heap.size, #[.int .i64 fn, .int .i64 regs, .slice (some ⟨g, o, none⟩) L cg], 24), (W6.heap.size, #[.int .i64 fn, .int .i64 regs, .slice a1 L c1], 24), (W8.heap.size, #[.int .i64 fn, .int .i64 regs, .slice a2 L c2], 24), (V2.heap.size, #[.int .i64 fn, .int .i64 regs, .slice an L cn], 24)] us (kepC us) (kepC bl) (.slice (some ⟨g, o, none⟩) L cg) (.slice an L cn) (.slice a1 L c1) (.slice aw L cw)) (by kernel_rfl) (unhide HSD) (fun hHeld => ?_)
        clear hHeld HSX
        refine wpAnyH_take (i := 0) (oi := _) (v := .agg #[.int .i64 fn, .int .i64 regs, .slice (some ⟨g, o, none⟩) L cg]) rfl (by kernel_rfl) (by kernel_rfl) (by kernel_rfl) (fun _ _ _ h => h) (Or.inl ⟨by rfl, (by intro w' hSw; have z0 := hSw.bx.ce 3 rfl 0; have z1 := hSw.bx.ce 3 rfl 1; have z2 := hSw.bx.ce 3 rfl 2; have zl := hSw.bx.lt (i := 3) rfl; simp at z0 z1 z2 zl; go_simp; first | done | rfl)⟩) (unhide HSD) ?_
        go_simp
        refine wpAnyH_take (i := 2) (oi := _) (v := .agg #[.int .i64 fn, .int .i64 regs, .slice an L cn]) rfl (by kernel_rfl) (by kernel_rfl) (by kernel_rfl) (fun _ _ _ h => h) (Or.inl ⟨by rfl, (by intro w' hSw; have z0 := hSw.bx.ce 6 rfl 0; have z1 := hSw.bx.ce 6 rfl 1; have z2 := hSw.bx.ce 6 rfl 2; have zl := hSw.bx.lt (i := 6) rfl; simp at z0 z1 z2 zl; go_simp; first | done | rfl)⟩) (unhide HSD) ?_
        go_simp
        refine wpAnyH_ready (rs := [1]) (by kernel_rfl) (by simp) ?_
        refine AllReadyH.cons (o := _) rfl (fun K hK => ?_) AllReadyH.nil
        have HC7 := hide (run_any (fn := fn) (regs := regs) (unhide HSD).i (unhide HUO) (by rw [unhide HUL]; exact hN))
        go_simp
        refine (unhide HC7).mono ?_
        rintro e V4 hA
        obtain ⟨a5, c5, T5, rfl, r5, r6, bV4, o5⟩ := hA.at
        rw [unhide HULK] at r5 o5 ⊢
        have HS4 := hide ((unhide HSD).on bV4)
        have HC8 := hide (sameR_yes (fn := fn) (regs := regs) (BksV.of_ow o5) (unhide HS4).n (by rw [unhide HULK]; exact hN) (fun b hb => (kepC_okL (unhide HUO) b hb).s))
        refine hK.out _ _ (unhide HS4) (fun hHeld => ?_)
        clear hHeld hK K HC7 HSD hA o5 bV4
        refine wpAnyH_ready (rs := [3]) (by kernel_rfl) (by simp) ?_
        refine AllReadyH.cons (o := _) rfl (fun K hK => ?_) AllReadyH.nil
        go_simp
        refine (unhide HC8).mono ?_
        rintro e V5 ⟨rfl, bV5⟩
        have HS5 := hide ((unhide HS4).on bV5)
        refine hK.out _ _ (unhide HS5) (fun hHeld => ?_)
        clear hHeld hK K HC8 HS4 bV5
        refine wpAnyH_take (i := 4) (oi := _) (v := .bool true) rfl (by kernel_rfl) (by kernel_rfl) (by kernel_rfl) (fun _ _ _ h => h) (Or.inl ⟨by rfl, (by intro w' hSw; go_simp; first | done | rfl)⟩) (unhide HS5) ?_
        go_simp
        refine wpAnyH_take (i := 5) (oi := _) (v := .agg #[.int .i64 fn, .int .i64 regs, .slice a1 L c1]) rfl (by kernel_rfl) (by kernel_rfl) (by kernel_rfl) (fun _ _ _ h => h) (Or.inl ⟨by rfl, (by intro w' hSw; have z0 := hSw.bx.ce 4 rfl 0; have z1 := hSw.bx.ce 4 rfl 1; have z2 := hSw.bx.ce 4 rfl 2; have zl := hSw.bx.lt (i := 4) rfl; simp at z0 z1 z2 zl; go_simp; first | done | rfl)⟩) (unhide HS5) ?_
        go_simp
        refine wpAnyH_take (i := 6) (oi := _) (v := .agg #[.int .i64 fn, .int .i64 regs, .slice aw L cw]) rfl (by kernel_rfl) (by kernel_rfl) (by kernel_rfl) (fun _ _ _ h => h) (Or.inl ⟨by rfl, (by intro w' hSw; have z0 := hSw.bx.ce 2 rfl 0; have z1 := hSw.bx.ce 2 rfl 1; have z2 := hSw.bx.ce 2 rfl 2; have zl := hSw.bx.lt (i := 2) rfl; simp at z0 z1 z2 zl; go_simp; first | done | rfl)⟩) (unhide HS5) ?_
        go_simp
        have HC8 := hide (sameR_yes (fn := fn) (regs := regs) (unhide HS5).a (unhide HS5).wt (by rw [unhide HLM]; exact hN) (fun b hb => (unhide HOT b hb).s))
        refine wpAnyH_ready (rs := [7]) (by kernel_rfl) (by simp) ?_
        refine AllReadyH.cons (o := _) rfl (fun K hK => ?_) AllReadyH.nil
        go_simp
        refine (unhide HC8).mono ?_
        rintro e V6 ⟨rfl, bV6⟩
        have HS6 := hide ((unhide HS5).on bV6)
        refine hK.out _ _ (unhide HS6) (fun hHeld => ?_)
        clear hHeld hK K HC8 HS5 bV6
        refine wpAnyH_take (i := 8) (oi := _) (v := .bool true) rfl (by kernel_rfl) (by kernel_rfl) (by kernel_rfl) (fun _ _ _ h => h) (Or.inl ⟨by rfl, (by intro w' hSw; go_simp; first | done | rfl)⟩) (unhide HS6) ?_
        go_simp
        refine wpAnyH_take (i := 9) (oi := _) (v := .bool true) rfl (by kernel_rfl) (by kernel_rfl) (by kernel_rfl) (fun _ _ _ h => h) (Or.inl ⟨by rfl, (by intro w' hSw; go_simp; first | done | rfl)⟩) (unhide HS6) ?_
        go_simp
        refine wpAnyH_done (by kernel_rfl) ?_ _
        have HFF := hide (unhide HS6).bx.b
        clear HS6
        go_wp2_with fail
        go_ret
        exact ⟨rfl, unhide HFF⟩
      have hlM : ¬ i < M := fun q => hlt ⟨hlL, q⟩
      have i1 : (i : Int) < (L : Int) := by omega
      have i2 : ¬ (i : Int) < (M : Int) := by omega
      go_wp2_with fail
      refine (unhide HC11).mono ?_
      rintro e V1 hA
      obtain ⟨ac, cc, Tc, rfl, r1, r2, bV1, oc1⟩ := hA.at
      rw [unhide HUL] at r1 oc1 ⊢
      have HC5 := hide (refRun_any (fn := fn) (regs := regs) (BksV.of_ow oc1) (unhide HUO) (by rw [unhide HUL]; exact hN))
      have HBX1 := hide ((unhide HBX).go bV1)
      have HKU1 := hide (BksV.mv.bel (unhide HKU) bV1)
      have HAR1 := hide (BksV.mv.bel (unhide HAR) bV1)
      have HWR1 := hide (BksV.mv.bel (unhide HWR) bV1)
      clear HC11 HBX HKU HAR HWR hA oc1 bV1 x0 x1 x2 xl y0 y1 y2 yl hS
      go_wp2_with fail
      refine (unhide HC5).mono ?_
      rintro e V2 hA
      obtain ⟨an, cn, Tn, rfl, r3, r4, bV2, on1⟩ := hA.at
      have HULK : Hid ((kepC us).length = L) := by unfold Hid; rw [kepC_len]; exact unhide HUL
      rw [unhide HULK] at r3 on1 ⊢
      have HBX3 := hide (((unhide HBX1).go bV2).add #[.int .i64 fn, .int .i64 regs, .slice an L cn] 24)
      obtain ⟨V3, hV3⟩ : ∃ V3, Hid (V2.alloc (.cells #[.int .i64 fn, .int .i64 regs, .slice an L cn] 24) = V3) := ⟨_, hide rfl⟩
      have bV3 : Below V2.heap.size V2 V3 := by rw [← unhide hV3]; exact box1n V2 _
      rw [unhide hV3] at HBX3
      simp only [List.nil_append, List.cons_append] at HBX3
      have bb := bl_past bV2 bV3
      have HSX : Hid (LrS w [(w.heap.size, #[.int .i64 fn, .int .i64 regs, .slice a L c], (24 : TypeId)), (w.heap.size + 1, #[.int .i64 ofn, .int .i64 oregs, .slice oa M oc], 24), (W1.heap.size, #[.int .i64 fn, .int .i64 regs, .slice aw L cw], 24), (W4.heap.size, #[.int .i64 fn, .int .i64 regs, .slice (some ⟨g, o, none⟩) L cg], 24), (W6.heap.size, #[.int .i64 fn, .int .i64 regs, .slice a1 L c1], 24), (W8.heap.size, #[.int .i64 fn, .int .i64 regs, .slice a2 L c2], 24), (V2.heap.size, #[.int .i64 fn, .int .i64 regs, .slice an L cn], 24)] us (kepC us) (kepC bl) (.slice (some ⟨g, o, none⟩) L cg) (.slice an L cn) (.slice a1 L c1) (.slice aw L cw) V3) := ⟨unhide HBX3, BksV.mv.bel (unhide HKU1) bb, BksV.mv.bel (BksV.of_ow on1) bV3, BksV.mv.bel (unhide HAR1) bb, BksV.mv.bel (unhide HWR1) bb⟩
      have hV3' := unhide hV3
      clear HC5 HBX1 HBX3 HKU1 HAR1 HWR1 hA on1 bV2 bV3 bb
      go_wp2_with fail
      clear hV3' hV3
      have HSD : Hid (LrS w [(w.heap.size, #[.int .i64 fn, .int .i64 regs, .slice a L c], (24 : TypeId)), (w.heap.size + 1, #[.int .i64 ofn, .int .i64 oregs, .slice oa M oc], 24), (W1.heap.size, #[.int .i64 fn, .int .i64 regs, .slice aw L cw], 24), (W4.heap.size, #[.int .i64 fn, .int .i64 regs, .slice (some ⟨g, o, none⟩) L cg], 24), (W6.heap.size, #[.int .i64 fn, .int .i64 regs, .slice a1 L c1], 24), (W8.heap.size, #[.int .i64 fn, .int .i64 regs, .slice a2 L c2], 24), (V2.heap.size, #[.int .i64 fn, .int .i64 regs, .slice an L cn], 24)] us (kepC us) (kepC bl) (.slice (some ⟨g, o, none⟩) L cg) (.slice an L cn) (.slice a1 L c1) (.slice aw L cw) V3.drew) := hide ((unhide HSX).on (bl_drew V3))
      refine wp_region_held_drew (S := LrS w [(w.heap.size, #[.int .i64 fn, .int .i64 regs, .slice a L c], (24 : TypeId)), (w.heap.size + 1, #[.int .i64 ofn, .int .i64 oregs, .slice oa M oc], 24), (W1.heap.size, #[.int .i64 fn, .int .i64 regs, .slice aw L cw], 24), (W4.heap.size, #[.int .i64 fn, .int .i64 regs, .slice (some ⟨g, o, none⟩) L cg], 24), (W6.heap.size, #[.int .i64 fn, .int .i64 regs, .slice a1 L c1], 24), (W8.heap.size, #[.int .i64 fn, .int .i64 regs, .slice a2 L c2], 24), (V2.heap.size, #[.int .i64 fn, .int .i64 regs, .slice an L cn], 24)] us (kepC us) (kepC bl) (.slice (some ⟨g, o, none⟩) L cg) (.slice an L cn) (.slice a1 L c1) (.slice aw L cw)) (by kernel_rfl) (unhide HSD) (fun hHeld => ?_)
      clear hHeld HSX
      refine wpAnyH_take (i := 0) (oi := _) (v := .agg #[.int .i64 fn, .int .i64 regs, .slice (some ⟨g, o, none⟩) L cg]) rfl (by kernel_rfl) (by kernel_rfl) (by kernel_rfl) (fun _ _ _ h => h) (Or.inl ⟨by rfl, (by intro w' hSw; have z0 := hSw.bx.ce 3 rfl 0; have z1 := hSw.bx.ce 3 rfl 1; have z2 := hSw.bx.ce 3 rfl 2; have zl := hSw.bx.lt (i := 3) rfl; simp at z0 z1 z2 zl; go_simp; first | done | rfl)⟩) (unhide HSD) ?_
      go_simp
      refine wpAnyH_take (i := 2) (oi := _) (v := .agg #[.int .i64 fn, .int .i64 regs, .slice an L cn]) rfl (by kernel_rfl) (by kernel_rfl) (by kernel_rfl) (fun _ _ _ h => h) (Or.inl ⟨by rfl, (by intro w' hSw; have z0 := hSw.bx.ce 6 rfl 0; have z1 := hSw.bx.ce 6 rfl 1; have z2 := hSw.bx.ce 6 rfl 2; have zl := hSw.bx.lt (i := 6) rfl; simp at z0 z1 z2 zl; go_simp; first | done | rfl)⟩) (unhide HSD) ?_
      go_simp
      refine wpAnyH_ready (rs := [1]) (by kernel_rfl) (by simp) ?_
      refine AllReadyH.cons (o := _) rfl (fun K hK => ?_) AllReadyH.nil
      have HC7 := hide (run_any (fn := fn) (regs := regs) (unhide HSD).i (unhide HUO) (by rw [unhide HUL]; exact hN))
      go_simp
      refine (unhide HC7).mono ?_
      rintro e V4 hA
      obtain ⟨a5, c5, T5, rfl, r5, r6, bV4, o5⟩ := hA.at
      rw [unhide HULK] at r5 o5 ⊢
      have HS4 := hide ((unhide HSD).on bV4)
      have HC8 := hide (sameR_yes (fn := fn) (regs := regs) (BksV.of_ow o5) (unhide HS4).n (by rw [unhide HULK]; exact hN) (fun b hb => (kepC_okL (unhide HUO) b hb).s))
      refine hK.out _ _ (unhide HS4) (fun hHeld => ?_)
      clear hHeld hK K HC7 HSD hA o5 bV4
      refine wpAnyH_ready (rs := [3]) (by kernel_rfl) (by simp) ?_
      refine AllReadyH.cons (o := _) rfl (fun K hK => ?_) AllReadyH.nil
      go_simp
      refine (unhide HC8).mono ?_
      rintro e V5 ⟨rfl, bV5⟩
      have HS5 := hide ((unhide HS4).on bV5)
      refine hK.out _ _ (unhide HS5) (fun hHeld => ?_)
      clear hHeld hK K HC8 HS4 bV5
      refine wpAnyH_take (i := 4) (oi := _) (v := .bool true) rfl (by kernel_rfl) (by kernel_rfl) (by kernel_rfl) (fun _ _ _ h => h) (Or.inl ⟨by rfl, (by intro w' hSw; go_simp; first | done | rfl)⟩) (unhide HS5) ?_
      go_simp
      refine wpAnyH_take (i := 5) (oi := _) (v := .agg #[.int .i64 fn, .int .i64 regs, .slice a1 L c1]) rfl (by kernel_rfl) (by kernel_rfl) (by kernel_rfl) (fun _ _ _ h => h) (Or.inl ⟨by rfl, (by intro w' hSw; have z0 := hSw.bx.ce 4 rfl 0; have z1 := hSw.bx.ce 4 rfl 1; have z2 := hSw.bx.ce 4 rfl 2; have zl := hSw.bx.lt (i := 4) rfl; simp at z0 z1 z2 zl; go_simp; first | done | rfl)⟩) (unhide HS5) ?_
      go_simp
      refine wpAnyH_take (i := 6) (oi := _) (v := .agg #[.int .i64 fn, .int .i64 regs, .slice aw L cw]) rfl (by kernel_rfl) (by kernel_rfl) (by kernel_rfl) (fun _ _ _ h => h) (Or.inl ⟨by rfl, (by intro w' hSw; have z0 := hSw.bx.ce 2 rfl 0; have z1 := hSw.bx.ce 2 rfl 1; have z2 := hSw.bx.ce 2 rfl 2; have zl := hSw.bx.lt (i := 2) rfl; simp at z0 z1 z2 zl; go_simp; first | done | rfl)⟩) (unhide HS5) ?_
      go_simp
      have HC8 := hide (sameR_yes (fn := fn) (regs := regs) (unhide HS5).a (unhide HS5).wt (by rw [unhide HLM]; exact hN) (fun b hb => (unhide HOT b hb).s))
      refine wpAnyH_ready (rs := [7]) (by kernel_rfl) (by simp) ?_
      refine AllReadyH.cons (o := _) rfl (fun K hK => ?_) AllReadyH.nil
      go_simp
      refine (unhide HC8).mono ?_
      rintro e V6 ⟨rfl, bV6⟩
      have HS6 := hide ((unhide HS5).on bV6)
      refine hK.out _ _ (unhide HS6) (fun hHeld => ?_)
      clear hHeld hK K HC8 HS5 bV6
      refine wpAnyH_take (i := 8) (oi := _) (v := .bool true) rfl (by kernel_rfl) (by kernel_rfl) (by kernel_rfl) (fun _ _ _ h => h) (Or.inl ⟨by rfl, (by intro w' hSw; go_simp; first | done | rfl)⟩) (unhide HS6) ?_
      go_simp
      refine wpAnyH_take (i := 9) (oi := _) (v := .bool true) rfl (by kernel_rfl) (by kernel_rfl) (by kernel_rfl) (fun _ _ _ h => h) (Or.inl ⟨by rfl, (by intro w' hSw; go_simp; first | done | rfl)⟩) (unhide HS6) ?_
      go_simp
      refine wpAnyH_done (by kernel_rfl) ?_ _
      have HFF := hide (unhide HS6).bx.b
      clear HS6
      go_wp2_with fail
      go_ret
      exact ⟨rfl, unhide HFF⟩
    obtain ⟨hlL, hlM⟩ := hlt
    have i1 : (i : Int) < (L : Int) := by omega
    have i2 : (i : Int) < (M : Int) := by omega
    clear hBXr hWTr hA1r HBX
    obtain ⟨uo, huo⟩ : ∃ s, ol[i]? = some s := ⟨_, List.getElem?_eq_getElem (by rw [unhide hM]; exact hlM)⟩
    obtain ⟨u0, hu0⟩ : ∃ s, bl[i]? = some s := ⟨_, List.getElem?_eq_getElem (by rw [unhide hL]; exact hlL)⟩
    obtain ⟨vb, vo, ja, jc, na, nc, rfl, hvb, hIns, hNx, hic, hnc, hil, hnl, hcell⟩ := BksV.blk (unhide HOT') huo
    have HOU := hide (unhide HOO uo (List.mem_of_getElem? huo))
    have HU0 := hide hu0
    obtain ⟨JL, hJL⟩ : ∃ z, Hid (uo.ins.length = z) := ⟨_, hide rfl⟩
    obtain ⟨IL, hIL⟩ : ∃ z, Hid (u0.ins.length = z) := ⟨_, hide rfl⟩
    rw [unhide hJL] at hcell hil hIns
    have HBL := hide hcell
    have HIN := hide hIns
    have hILb : IL ≤ 1048576 := by rw [← unhide hIL]; exact (unhide HOL u0 (List.mem_of_getElem? hu0)).1
    have hJLb : JL ≤ 1048576 := by rw [← unhide hJL]; exact (unhide HOU).2.1
    unfold maxLen at hic
    clear hcell hIns hNx hnc hnl huo hu0
    obtain ⟨wO, rfl⟩ : ∃ z, z = wr := ⟨wr, rfl⟩
    obtain ⟨gO, rfl⟩ : ∃ z, z = gk := ⟨gk, rfl⟩
    go_wp2_with fail
    clear x0 x1 x2 xl y0 y1 y2 yl
    go_loopg [11] IL (fun gg t11 W => ∃ (k : Nat) (us : List Bk) (XD : List TB), Hid (k + gg = IL) ∧ t11 = .int .i64 (k : Int) ∧ Hid (SW W2.heap.size L W2.heap.size W4.heap.size bl (.slice (some ⟨g, o, none⟩) L cg) WC us XD W))
    case atStart => exact ⟨0, _, _, by unfold Hid; omega, rfl, hS⟩
    case round =>
      clear hS
      obtain ⟨k, us2, XD3, hk, rfl, hQ⟩ := hrel
      obtain ⟨hBXr, hWTr, hA1r⟩ := unhide HFRC wr (unhide hQ).fr
      have HBX := hide hBXr
      have k0 : (0 : Int) ≤ (k : Int) := by omega
      have x2 := hBXr.ce 3 rfl 2
      have xl := hBXr.lt (i := 3) rfl
      have y2 := hBXr.ce 1 rfl 2
      have yl := hBXr.lt (i := 1) rfl
      simp at x2 xl y2 yl
      obtain ⟨m0, m1, m2, m3⟩ := unhide HBL wr hBXr.b
      obtain ⟨u, hu⟩ : ∃ s, us2[i]? = some s := ⟨_, List.getElem?_eq_getElem (by rw [(unhide hQ).len]; exact hlL)⟩
      obtain ⟨x, hx⟩ : ∃ s, XD3[i]? = some s := ⟨_, List.getElem?_eq_getElem (by rw [(unhide hQ).ow.len, (unhide hQ).len]; exact hlL)⟩
      have hul : u.ins.length = IL := by
        obtain ⟨u1, e1, e2⟩ := (unhide hQ).same i u hu
        rw [unhide HU0] at e1
        cases e1
        rw [e2, unhide hIL]
      have hP := (unhide hQ).ow.el i u x hu hx
      have hXL : XD3.length = L := by rw [(unhide hQ).ow.len, (unhide hQ).len]
      have hrow : Ro wr 3 (.slice (some ⟨g, o, none⟩) L cg) XD3.length (flt enTB XD3) := by rw [hXL]; have q := (unhide hQ).ow.row; rw [(unhide hQ).len] at q; exact q
      obtain ⟨g', o', cc', eg, _, _, hgl, hgc⟩ := (Rx.of_ro hrow).elem zTB hx
      obtain ⟨rfl, rfl⟩ : g' = g ∧ o' = o := by cases eg; exact ⟨rfl, rfl⟩
      have hc1 : wr.cell? ⟨g', o' + i * 3 + 1, none⟩ = some x.1.iv := hgc 1 _ rfl
      obtain ⟨iva, icap, eiv, hiv1, hiv2⟩ := hP.ow.row.shape
      rw [hul] at eiv hiv1
      unfold maxLen at hiv2
      rw [eiv] at hc1
      clear eg hgc hrow
      by_cases hkt : k < IL ∧ k < JL
      case neg =>
        by_cases hkI : k < IL
        case neg =>
          have k1 : ¬ (k : Int) < (IL : Int) := by omega
          clear hP eiv
          go_wp2_with fail
          go_roundg (L - (i + 1))
          case measure => have := unhide hi; omega
          case rel => exact ⟨i + 1, us2, XD3, by have := unhide hi; unfold Hid; omega, by go_num, hQ⟩
        have k1 : (k : Int) < (IL : Int) := by omega
        have k2 : ¬ (k : Int) < (JL : Int) := by omega
        clear hP eiv
        go_wp2_with fail
        go_roundg (L - (i + 1))
        case measure => have := unhide hi; omega
        case rel => exact ⟨i + 1, us2, XD3, by have := unhide hi; unfold Hid; omega, by go_num, hQ⟩
      obtain ⟨hkI, hkJ⟩ := hkt
      have k1 : (k : Int) < (IL : Int) := by omega
      have k2 : (k : Int) < (JL : Int) := by omega
      obtain ⟨y, hy⟩ : ∃ s, uo.ins[k]? = some s := ⟨_, List.getElem?_eq_getElem (by rw [unhide hJL]; exact hkJ)⟩
      obtain ⟨yo, hyo⟩ : ∃ s, u.ins[k]? = some s := ⟨_, List.getElem?_eq_getElem (by rw [hul]; exact hkI)⟩
      obtain ⟨jb, jo, aa, ac, ea, ec, rfl, hjb, hInP, ha1', ha2', he1', he2', hic8⟩ := InsV.at8 (unhide HIN) hy
      have hyb := (unhide HOU).2.2.2 y (List.mem_of_getElem? hy)
      obtain ⟨t0, ht0⟩ : ∃ t0, x.2[k]? = some t0 := ⟨_, List.getElem?_eq_getElem (by rw [hP.ow.len, hul]; exact hkI)⟩
      have hxl2 : x.2.length = IL := by rw [hP.ow.len, hul]
      have hrow2 : Ro wr 8 x.1.iv x.2.length (flt enT x.2) := by have q := hP.ow.row; rw [hul] at q; rw [hxl2]; exact q
      obtain ⟨ib, io, icc, eib, _, _, hibl, hibc⟩ := (Rx.of_ro hrow2).elem zT ht0
      rw [hxl2, eiv] at eib
      obtain ⟨rfl, rfl⟩ : iva = some ⟨ib, io, none⟩ ∧ icap = icc := by cases eib; exact ⟨rfl, rfl⟩
      clear eib
      have hiw : x.1.iv.ownBlock = some ib := by rw [eiv]; rfl
      have hibr := (unhide hQ).iv x (List.mem_of_getElem? hx) ib hiw
      have hgib : g' ≠ ib := fun e => (((unhide hQ).ow.eb i x ib hx (.inl hiw)).2.2) (by rw [← e]; rfl)
      have hifz : ∀ z, wr.frozen? ⟨ib, z, none⟩ = false := fun z => by rw [hxl2, eiv] at hrow2; exact hrow2.free rfl z
      obtain ⟨⟨t0op, t0code, t0dst, t0av, t0n, t0pc, t0need, t0ev⟩, t0s⟩ := t0
      have HIC : Hid (wr.cell? ⟨ib, io + k * 8, none⟩ = some (.int .i64 t0op) ∧ wr.cell? ⟨ib, io + k * 8 + 1, none⟩ = some (.int .i64 t0code) ∧ wr.cell? ⟨ib, io + k * 8 + 2, none⟩ = some (.int .i64 t0dst) ∧ wr.cell? ⟨ib, io + k * 8 + 3, none⟩ = some t0av ∧ wr.cell? ⟨ib, io + k * 8 + 4, none⟩ = some (.int .i64 t0n) ∧ wr.cell? ⟨ib, io + k * 8 + 5, none⟩ = some (.int .i64 t0pc) ∧ wr.cell? ⟨ib, io + k * 8 + 6, none⟩ = some (.int .i64 t0need) ∧ wr.cell? ⟨ib, io + k * 8 + 7, none⟩ = some t0ev) := ⟨hibc 0 _ rfl, hibc 1 _ rfl, hibc 2 _ rfl, hibc 3 _ rfl, hibc 4 _ rfl, hibc 5 _ rfl, hibc 6 _ rfl, hibc 7 _ rfl⟩
      have HIFZ := hide hifz
      have HCP : Hid (∀ V, Below w.heap.size w V → Calls Try.prog 10 #[inV ⟨y.op, y.code, y.dst, .slice aa y.args.length ac, y.n, y.pc, y.need, .slice ea y.ex.length ec⟩] V fun e w' => ∃ r, e = .returned (inV r) ∧ CiT V y r w') := fun V hV => copyInT_any (InP.mv.bel hInP hV) (by omega) (by omega) (fun s hs => by have := hyb.2.2 s hs; omega)
      unfold inV at HCP
      dsimp only at HCP
      obtain ⟨AL, hAL⟩ : ∃ z, Hid (y.args.length = z) := ⟨_, hide rfl⟩
      obtain ⟨EL, hEL⟩ : ∃ z, Hid (y.ex.length = z) := ⟨_, hide rfl⟩
      rw [unhide hAL] at hic8 HCP
      rw [unhide hEL] at hic8 HCP
      have HYB := hide hyb
      have HPU := hide (fun (r : InR) (V1 : World) (hc : CiT wr.drew y r V1) => ((unhide hQ).on (bl_drew wr)).put (g := ib) (off := io) (cap := icap) hu hx hyo hc (by show W2.heap.size < wr.heap.size; omega) (by show W2.heap.size ≤ wr.heap.size; omega) (by rw [eiv, hul]) hyb)
      have HIR : Hid (∀ V, Fr (fun q => q = ib) wr V → W4.heap.size < V.heap.size ∧ V.cell? ⟨W4.heap.size, 2, none⟩ = some (.slice (some ⟨g', o', none⟩) L cg) ∧ g' < V.heap.size ∧ V.cell? ⟨g', o' + i * 3 + 1, none⟩ = some (.slice (some ⟨ib, io, none⟩) IL icap) ∧ ib < V.heap.size) := fun V hV => by
        have hs := hV.size
        exact ⟨by omega, (hV.cell (a := ⟨W4.heap.size, 2, none⟩) xl (fun e => by have e' : W4.heap.size = ib := e; omega)).trans x2, by omega, (hV.cell (a := ⟨g', o' + i * 3 + 1, none⟩) hgl (fun e => hgib e)).trans hc1, by omega⟩
      have HOR : Hid (∀ V, Fr (fun q => q = ib) wr V → w.heap.size + 1 < V.heap.size ∧ V.cell? ⟨w.heap.size + 1, 2, none⟩ = some (.slice (some ⟨vb, vo, none⟩) M oc) ∧ vb < V.heap.size ∧ V.cell? ⟨vb, vo + i * 3 + 1, none⟩ = some (.slice (some ⟨jb, jo, none⟩) JL jc) ∧ jb < V.heap.size ∧ V.cell? ⟨jb, jo + k * 8, none⟩ = some (.int .i64 y.op) ∧ V.cell? ⟨jb, jo + k * 8 + 1, none⟩ = some (.int .i64 y.code) ∧ V.cell? ⟨jb, jo + k * 8 + 2, none⟩ = some (.int .i64 y.dst) ∧ V.cell? ⟨jb, jo + k * 8 + 3, none⟩ = some (.slice aa AL ac) ∧ V.cell? ⟨jb, jo + k * 8 + 4, none⟩ = some (.int .i64 y.n) ∧ V.cell? ⟨jb, jo + k * 8 + 5, none⟩ = some (.int .i64 y.pc) ∧ V.cell? ⟨jb, jo + k * 8 + 6, none⟩ = some (.int .i64 y.need) ∧ V.cell? ⟨jb, jo + k * 8 + 7, none⟩ = some (.slice ea EL ec) ∧ Below w.heap.size w V ∧ True) := fun V hV => by
        have hs := hV.size
        have hBV : Below w.heap.size w V := hBXr.b.trans (hV.below hBXr.b.size (fun q hq e => by have e' : q = ib := e; omega))
        obtain ⟨p0, p1, p2, p3⟩ := unhide HBL V hBV
        obtain ⟨s0, s1, s2, s3, s4, s5, s6, s7, s8⟩ := hic8 V hBV
        exact ⟨by omega, (hV.cell (a := ⟨w.heap.size + 1, 2, none⟩) yl (fun e => by have e' : w.heap.size + 1 = ib := e; omega)).trans y2, p0, p2, s0, s1, s2, s3, s4, s5, s6, s7, s8, hBV, trivial⟩
      clear hP hx hu hy hyo hic8 hInP hyb ht0 hrow2 hibc hifz hBXr hWTr hA1r ha1' ha2' he1' he2'
      obtain ⟨m4, m5, m6⟩ : wr.cell? ⟨vb, vo + i * 3 + 1, none⟩ = some (.slice (some ⟨jb, jo, none⟩) JL jc) ∧ True ∧ True := ⟨m2, trivial, trivial⟩
      go_wp2_with fail
      have HS0 : Hid (Fr (fun q => q = ib) wr wr.drew) := Fr.drewN 1
      refine wp_region_held_drew (S := fun V => Fr (fun q => q = ib) wr V) (by kernel_rfl) (unhide HS0) (fun hHeld => ?_)
      clear hHeld m0 m1 m2 m3 m4 m5 m6 x2 xl y2 yl hc1
      refine wpAnyH_take (i := 0) (oi := _) (v := .pointer (some ⟨W4.heap.size, 2, none⟩)) rfl (by kernel_rfl) (by kernel_rfl) (by kernel_rfl) (fun _ _ _ h => h) (Or.inl ⟨by rfl, (by intro w' hSw; go_simp; first | done | rfl)⟩) (unhide HS0) ?_
      go_simp
      refine wpAnyH_take (i := 1) (oi := _) (v := .slice (some ⟨g', o', none⟩) L cg) rfl (by kernel_rfl) (by kernel_rfl) (by kernel_rfl) (fun _ _ _ h => h) (Or.inl ⟨by rfl, (by intro w' hSw; obtain ⟨e0, e1, e2, e3, e4⟩ := unhide HIR w' hSw; go_simp; first | done | rfl)⟩) (unhide HS0) ?_
      go_simp
      refine wpAnyH_take (i := 2) (oi := _) (v := .int .i64 (i : Int)) rfl (by kernel_rfl) (by kernel_rfl) (by kernel_rfl) (fun _ _ _ h => h) (Or.inl ⟨by rfl, (by intro w' hSw; go_simp; first | done | rfl)⟩) (unhide HS0) ?_
      go_simp
      refine wpAnyH_take (i := 3) (oi := _) (v := .pointer (some ⟨g', o' + i * 3, none⟩)) rfl (by kernel_rfl) (by kernel_rfl) (by kernel_rfl) (fun _ _ _ h => h) (Or.inl ⟨by rfl, (by intro w' hSw; go_simp; first | done | rfl)⟩) (unhide HS0) ?_
      go_simp
      refine wpAnyH_take (i := 4) (oi := _) (v := .pointer (some ⟨g', o' + i * 3 + 1, none⟩)) rfl (by kernel_rfl) (by kernel_rfl) (by kernel_rfl) (fun _ _ _ h => h) (Or.inl ⟨by rfl, (by intro w' hSw; go_simp; first | done | rfl)⟩) (unhide HS0) ?_
      go_simp
      refine wpAnyH_take (i := 5) (oi := _) (v := .slice (some ⟨ib, io, none⟩) IL icap) rfl (by kernel_rfl) (by kernel_rfl) (by kernel_rfl) (fun _ _ _ h => h) (Or.inl ⟨by rfl, (by intro w' hSw; obtain ⟨e0, e1, e2, e3, e4⟩ := unhide HIR w' hSw; go_simp; first | done | rfl)⟩) (unhide HS0) ?_
      go_simp
      refine wpAnyH_take (i := 6) (oi := _) (v := .int .i64 (k : Int)) rfl (by kernel_rfl) (by kernel_rfl) (by kernel_rfl) (fun _ _ _ h => h) (Or.inl ⟨by rfl, (by intro w' hSw; go_simp; first | done | rfl)⟩) (unhide HS0) ?_
      go_simp
      refine wpAnyH_take (i := 7) (oi := _) (v := .pointer (some ⟨w.heap.size + 1, 2, none⟩)) rfl (by kernel_rfl) (by kernel_rfl) (by kernel_rfl) (fun _ _ _ h => h) (Or.inl ⟨by rfl, (by intro w' hSw; go_simp; first | done | rfl)⟩) (unhide HS0) ?_
      go_simp
      refine wpAnyH_take (i := 8) (oi := _) (v := .slice (some ⟨vb, vo, none⟩) M oc) rfl (by kernel_rfl) (by kernel_rfl) (by kernel_rfl) (fun _ _ _ h => h) (Or.inl ⟨by rfl, (by intro w' hSw; obtain ⟨g0, g1, g2, g3, g4, g5, g6, g7, g8, g9, g10, g11, g12, g13, g14⟩ := unhide HOR w' hSw; go_simp; first | done | rfl)⟩) (unhide HS0) ?_
      go_simp
      refine wpAnyH_take (i := 9) (oi := _) (v := .int .i64 (i : Int)) rfl (by kernel_rfl) (by kernel_rfl) (by kernel_rfl) (fun _ _ _ h => h) (Or.inl ⟨by rfl, (by intro w' hSw; go_simp; first | done | rfl)⟩) (unhide HS0) ?_
      go_simp
      refine wpAnyH_take (i := 10) (oi := _) (v := .pointer (some ⟨vb, vo + i * 3, none⟩)) rfl (by kernel_rfl) (by kernel_rfl) (by kernel_rfl) (fun _ _ _ h => h) (Or.inl ⟨by rfl, (by intro w' hSw; go_simp; first | done | rfl)⟩) (unhide HS0) ?_
      go_simp
      refine wpAnyH_take (i := 11) (oi := _) (v := .pointer (some ⟨vb, vo + i * 3 + 1, none⟩)) rfl (by kernel_rfl) (by kernel_rfl) (by kernel_rfl) (fun _ _ _ h => h) (Or.inl ⟨by rfl, (by intro w' hSw; go_simp; first | done | rfl)⟩) (unhide HS0) ?_
      go_simp
      refine wpAnyH_take (i := 12) (oi := _) (v := .slice (some ⟨jb, jo, none⟩) JL jc) rfl (by kernel_rfl) (by kernel_rfl) (by kernel_rfl) (fun _ _ _ h => h) (Or.inl ⟨by rfl, (by intro w' hSw; obtain ⟨g0, g1, g2, g3, g4, g5, g6, g7, g8, g9, g10, g11, g12, g13, g14⟩ := unhide HOR w' hSw; go_simp; first | done | rfl)⟩) (unhide HS0) ?_
      go_simp
      refine wpAnyH_take (i := 13) (oi := _) (v := .int .i64 (k : Int)) rfl (by kernel_rfl) (by kernel_rfl) (by kernel_rfl) (fun _ _ _ h => h) (Or.inl ⟨by rfl, (by intro w' hSw; go_simp; first | done | rfl)⟩) (unhide HS0) ?_
      go_simp
      refine wpAnyH_take (i := 14) (oi := _) (v := .pointer (some ⟨jb, jo + k * 8, none⟩)) rfl (by kernel_rfl) (by kernel_rfl) (by kernel_rfl) (fun _ _ _ h => h) (Or.inl ⟨by rfl, (by intro w' hSw; go_simp; first | done | rfl)⟩) (unhide HS0) ?_
      go_simp
      refine wpAnyH_take (i := 15) (oi := _) (v := .agg #[.int .i64 y.op, .int .i64 y.code, .int .i64 y.dst, .slice aa AL ac, .int .i64 y.n, .int .i64 y.pc, .int .i64 y.need, .slice ea EL ec]) rfl (by kernel_rfl) (by kernel_rfl) (by kernel_rfl) (fun _ _ _ h => h) (Or.inl ⟨by rfl, (by intro w' hSw; obtain ⟨g0, g1, g2, g3, g4, g5, g6, g7, g8, g9, g10, g11, g12, g13, g14⟩ := unhide HOR w' hSw; go_simp; first | done | rfl)⟩) (unhide HS0) ?_
      go_simp
      refine wpAnyH_ready (rs := [16]) (by kernel_rfl) (by simp) ?_
      refine AllReadyH.cons (o := _) rfl (fun K hK => ?_) AllReadyH.nil
      go_simp
      refine (unhide HCP _ (unhide HOR _ (unhide HS0)).2.2.2.2.2.2.2.2.2.2.2.2.2.1).mono ?_
      rintro e V1 ⟨r, rfl, hc⟩
      obtain ⟨a3, c3, a4, c4, e1, e2⟩ := hc.shape
      have hb1 := hc.bel
      have hput := unhide HPU r V1 hc
      obtain ⟨rop, rcode, rdst, rav, rn, rpc, rneed, rev⟩ := r
      simp only at e1 e2
      rw [unhide hAL] at e1
      rw [unhide hEL] at e2
      subst e1 e2
      have hF1 : Fr (fun q => q = ib) wr V1 := (unhide HS0).trx (Fr.of_below (S := fun _ => False) hb1) (fun _ _ e => e.elim)
      have HF1 := hide hF1
      have HPT := hide hput
      obtain ⟨n0, n1, n2, n3, n4, n5, n6, n7⟩ := unhide HIC
      have b0 := (hb1.cell (p := ⟨ib, io + k * 8, none⟩) hibl).trans n0
      have b1 := (hb1.cell (p := ⟨ib, io + k * 8 + 1, none⟩) hibl).trans n1
      have b2 := (hb1.cell (p := ⟨ib, io + k * 8 + 2, none⟩) hibl).trans n2
      have b3 := (hb1.cell (p := ⟨ib, io + k * 8 + 3, none⟩) hibl).trans n3
      have b4 := (hb1.cell (p := ⟨ib, io + k * 8 + 4, none⟩) hibl).trans n4
      have b5 := (hb1.cell (p := ⟨ib, io + k * 8 + 5, none⟩) hibl).trans n5
      have b6 := (hb1.cell (p := ⟨ib, io + k * 8 + 6, none⟩) hibl).trans n6
      have b7 := (hb1.cell (p := ⟨ib, io + k * 8 + 7, none⟩) hibl).trans n7
      have bl8 : ib < V1.heap.size := Nat.lt_of_lt_of_le hibl hb1.size
      have hfz : ∀ z, V1.frozen? ⟨ib, z, none⟩ = false := fun z => (World.frozen?_of_block (hb1.block ib hibl)).trans (unhide HIFZ z)
      have f0 := hfz (io + k * 8)
      have f1 := hfz (io + k * 8 + 1)
      have f2 := hfz (io + k * 8 + 2)
      have f3 := hfz (io + k * 8 + 3)
      have f4 := hfz (io + k * 8 + 4)
      have f5 := hfz (io + k * 8 + 5)
      have f6 := hfz (io + k * 8 + 6)
      have f7 := hfz (io + k * 8 + 7)
      have HSF : Hid (Fr (fun q => q = ib) wr (putX V1 ib (io + k * 8) ⟨rop, rcode, rdst, .slice a3 AL c3, rn, rpc, rneed, .slice a4 EL c4⟩)) := hF1.trx (putX_fr _ _ _ _) (fun _ _ e => e)
      unfold putX at HSF HPT
      dsimp only at HSF HPT
      clear hput hc hb1 hF1 hfz HPU HCP n0 n1 n2 n3 n4 n5 n6 n7
      refine hK.out _ _ (unhide HF1) (fun hHeld => ?_)
      clear hHeld hK K
      refine wpAnyH_take (i := 17) (oi := _) (v := .pointer (some ⟨ib, io + k * 8, none⟩)) rfl (by kernel_rfl) (by kernel_rfl) (by kernel_rfl) (fun _ _ _ h => h) (Or.inl ⟨by rfl, (by intro w' hSw; go_simp; first | done | rfl)⟩) (unhide HF1) ?_
      go_simp
      refine wpAnyH_ready (rs := [18]) (by kernel_rfl) (by simp) ?_
      refine AllReadyH.cons (o := _) rfl (fun K hK => ?_) AllReadyH.nil
      go_simp
      refine hK.out _ _ (unhide HSF) (fun hHeld => ?_)
      clear hHeld hK K b0 b1 b2 b3 b4 b5 b6 b7 f0 f1 f2 f3 f4 f5 f6 f7
      refine wpAnyH_done (by kernel_rfl) ?_ _
      obtain ⟨us', XD', hPT⟩ := unhide HPT
      have HT := hide hPT
      clear hPT HPT HSF
      go_wp2_with fail
      go_roundg (gk - 1)
      case measure => have := unhide hk; omega
      case rel => exact ⟨k + 1, us', XD', by have := unhide hk; unfold Hid; omega, by go_num, HT⟩
end Go.Proofs.Ytiamoinhmkhaoaa
