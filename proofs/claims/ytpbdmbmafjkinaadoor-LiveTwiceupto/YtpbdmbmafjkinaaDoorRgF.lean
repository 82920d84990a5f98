/-
  Instructions and blocks held against each other.
-/
import Derived.Test.YtpbdmbmafjkinaaDoorRgB
import Derived.Test.YtpbdmbmafjkinaaDoorRgC
namespace Go.Proofs.YtpbdmbmafjkinaaDoor
open Go.RowKit
set_option linter.unusedVariables false
set_option linter.unusedSimpArgs false
theorem neqO0 (p : Op) : ∀ w : World, (binOp .neq 70 (opV p) (opV p)).run Tryd.prog w = .ok (.bool false) w := fun w => by
  unfold opV
  go_simp
set_option maxRecDepth 100000 in
set_option maxHeartbeats 3200000 in
theorem sameOpnds_any {w : World} {D D' : Nat → Prop} {av bv : Value} {l : List Op} (ha : OpV D w l av) (hb : OpV D' w l bv) :
    Calls Tryd.prog 66 #[av, bv] w fun e w' => e = .returned (.bool true) ∧ ∃ m, w' = w.drewN m := by
  obtain ⟨a, acap, rfl, ha1, ha2⟩ := ha.1.shape
  obtain ⟨b, bcap, rfl, hb1, hb2⟩ := hb.1.shape
  have HA := hide ha
  have HB := hide hb
  unfold maxLen at ha2 hb2
  clear ha hb
  obtain ⟨L, hL⟩ : ∃ L, Hid (l.length = L) := ⟨_, hide rfl⟩
  rw [unhide hL] at ha1 hb1 HA HB ⊢
  have d0 : (((L : Nat) : Int) != (L : Int)) = false := by simp
  go_enter Tryd.func66, Tryd.ntmps66
  go_wp2_with fail
  go_loopg [5] L (fun gg t5 wr => ∃ (i m : Nat), Hid (i + gg = L) ∧ t5 = .int .i64 (i : Int) ∧ Hid (wr = w.drewN m))
  case atStart => exact ⟨0, 0, by unfold Hid; omega, rfl, hide rfl⟩
  case round =>
    obtain ⟨i, m, hi, rfl, hw⟩ := hrel
    have hw' := unhide hw
    subst hw'
    by_cases hlt : i < L
    · obtain ⟨o, ho⟩ : ∃ o, l[i]? = some o := ⟨_, List.getElem?_eq_getElem (by rw [unhide hL]; exact hlt)⟩
      have HA' := HA
      have HB' := HB
      rw [← unhide hL] at HA' HB'
      obtain ⟨b1, f1, c1, e1, hb1', _, x0, x1⟩ := (unhide HA').at ho
      obtain ⟨b2, f2, c2, e2, hb2', _, y0, y1⟩ := (unhide HB').at ho
      rw [unhide hL] at e1 e2
      cases e1
      cases e2
      have i0 : (0 : Int) ≤ (i : Int) := by omega
      have i1 : (i : Int) < (L : Int) := by omega
      have d1 := neqO0 o
      unfold opV at d1
      clear HA' HB' ho
      go_wp2_with fail
      go_quiet (fail)
      have HN := hide (World.drewN_drewN w m nq)
      obtain ⟨X, hX⟩ : ∃ X, Hid ((w.drewN m).drewN nq = X) := ⟨_, hide rfl⟩
      have HXX : Hid (X = w.drewN (m + nq)) := by rw [← unhide hX]; exact unhide HN
      rw [unhide hX]
      clear hX HN x0 x1 y0 y1 hb1' hb2'
      go_wp2_with fail
      go_roundg (gk - 1)
      case measure => have := unhide hi; omega
      case rel => exact ⟨i + 1, _, by have := unhide hi; unfold Hid; omega, by go_num, HXX⟩
    · have hiL : i = L := by have := unhide hi; omega
      subst hiL
      go_wp2_with fail
      go_ret
      exact ⟨rfl, m, rfl⟩
set_option maxRecDepth 100000 in
set_option maxHeartbeats 3200000 in
theorem sameShapes_any {w : World} {D D' : Nat → Prop} {av bv : Value} {l : List Sh} (ha : ShsV D w l av) (hb : ShsV D' w l bv) :
    Calls Tryd.prog 67 #[av, bv] w fun e w' => e = .returned (.bool true) ∧ ∃ m, w' = w.drewN m := by
  obtain ⟨a, acap, rfl, ha1, ha2⟩ := NV.shape ha
  obtain ⟨b, bcap, rfl, hb1, hb2⟩ := NV.shape hb
  have HA := hide ha
  have HB := hide hb
  unfold maxLen at ha2 hb2
  clear ha hb
  obtain ⟨L, hL⟩ : ∃ L, Hid (l.length = L) := ⟨_, hide rfl⟩
  rw [unhide hL] at ha1 hb1 HA HB ⊢
  have d0 : (((L : Nat) : Int) != (L : Int)) = false := by simp
  go_enter Tryd.func67, Tryd.ntmps67
  go_wp2_with fail
  go_loopg [5] L (fun gg t5 wr => ∃ (i m : Nat), Hid (i + gg = L) ∧ t5 = .int .i64 (i : Int) ∧ Hid (wr = w.drewN m))
  case atStart => exact ⟨0, 0, by unfold Hid; omega, rfl, hide rfl⟩
  case round =>
    obtain ⟨i, m, hi, rfl, hw⟩ := hrel
    have hw' := unhide hw
    subst hw'
    by_cases hlt : i < L
    · obtain ⟨s, hs⟩ : ∃ s, l[i]? = some s := ⟨_, List.getElem?_eq_getElem (by rw [unhide hL]; exact hlt)⟩
      have HA' := HA
      have HB' := HB
      rw [← unhide hL] at HA' HB'
      obtain ⟨b1, f1, c1, sa, sc, e1, hb1', _, p1, p2, p3, hx⟩ := (unhide HA').at hs
      obtain ⟨b2, f2, c2, ta, tc, e2, hb2', _, r1, r2, r3, hy⟩ := (unhide HB').at hs
      rw [unhide hL] at e1 e2
      cases e1
      cases e2
      obtain ⟨x0, x1, x2⟩ := hx w rfl
      obtain ⟨y0, y1, y2⟩ := hy w rfl
      have i0 : (0 : Int) ≤ (i : Int) := by omega
      have i1 : (i : Int) < (L : Int) := by omega
      have d1 : (s.fn != s.fn) = false := by simp
      have d2 : (s.pc != s.pc) = false := by simp
      have HC := hide (fun n => sameOpnds_any (w := w.drewN n) (D := D) (D' := D') (OpV.mv D D _ _ _ _ _ p1 (Fr.drewN (S := fun _ => False) n) (fun _ _ e => ⟨fun q => q, e⟩)) (OpV.mv D' D' _ _ _ _ _ r1 (Fr.drewN (S := fun _ => False) n) (fun _ _ e => ⟨fun q => q, e⟩)))
      have HC' : Hid (∀ n, Calls Tryd.prog 66 #[.slice sa s.sl.length sc, .slice ta s.sl.length tc] (w.drewN (m + n)) fun e w' => e = .returned (.bool true) ∧ ∃ k, w' = w.drewN (m + k)) := fun n => (unhide HC (m + n)).mono fun _ _ ⟨he, k, hk⟩ => ⟨he, n + k, by rw [hk, World.drewN_drewN, Nat.add_assoc]⟩
      unfold maxLen at p3 r3
      clear HA' HB' hs hx hy p1 r1 HC
      go_wp2_with fail
      go_quiet (first | (go_at_call 66; exact unhide HC' _))
      have HN := hide (World.drewN_drewN w m nq)
      obtain ⟨X, hX⟩ : ∃ X, Hid ((w.drewN m).drewN nq = X) := ⟨_, hide rfl⟩
      have HXX : Hid (X = w.drewN (m + nq)) := by rw [← unhide hX]; exact unhide HN
      rw [unhide hX]
      clear hX HN x0 x1 x2 y0 y1 y2 hb1' hb2' HC'
      go_wp2_with fail
      go_roundg (gk - 1)
      case measure => have := unhide hi; omega
      case rel => exact ⟨i + 1, _, by have := unhide hi; unfold Hid; omega, by go_num, HXX⟩
    · have hiL : i = L := by have := unhide hi; omega
      subst hiL
      go_wp2_with fail
      go_ret
      exact ⟨rfl, m, rfl⟩

set_option linter.unusedVariables false
set_option linter.unusedSimpArgs false
theorem Mv.bel {U R : Type} {P : (Nat → Prop) → World → U → R → Prop} (h : Mv P) {D : Nat → Prop} {w w' : World} {u : U} {r : R} (hp : P D w u r) (f : Below w.heap.size w w') : P D w' u r :=
  h D D (fun _ => False) w w' u r hp (Fr.of_below f) (fun _ _ e => ⟨fun q => q, e⟩)
theorem blk8 (w : World) (t : TypeId) (v0 v1 v2 v3 v4 v5 v6 v7 : Value) {W : World} (h : Below (w.alloc (.cells #[v0, v1, v2, v3, v4, v5, v6, v7] t)).heap.size (w.alloc (.cells #[v0, v1, v2, v3, v4, v5, v6, v7] t)) W) :
    W.cell? ⟨w.heap.size, 0, none⟩ = some v0 ∧ W.cell? ⟨w.heap.size, 1, none⟩ = some v1 ∧ W.cell? ⟨w.heap.size, 2, none⟩ = some v2 ∧ W.cell? ⟨w.heap.size, 3, none⟩ = some v3 ∧ W.cell? ⟨w.heap.size, 4, none⟩ = some v4 ∧ W.cell? ⟨w.heap.size, 5, none⟩ = some v5 ∧ W.cell? ⟨w.heap.size, 6, none⟩ = some v6 ∧ W.cell? ⟨w.heap.size, 7, none⟩ = some v7 ∧ w.heap.size < W.heap.size := by
  obtain ⟨c1, c2, c3⟩ := blk_cells ((h.block w.heap.size (by simp)).trans (heap_alloc_new w _))
  exact ⟨c1 0, c1 1, c1 2, c1 3, c1 4, c1 5, c1 6, c1 7, c3⟩
set_option maxRecDepth 100000 in
set_option maxHeartbeats 6400000 in
theorem sameIns_any {w : World} {D D' : Nat → Prop} {av bv : Value} {l : List RIn} (ha : InsV D w l av) (hb : InsV D' w l bv) :
    Calls Tryd.prog 47 #[av, bv] w fun e w' => e = .returned (.bool true) ∧ Below w.heap.size w w' := by
  obtain ⟨a, acap, rfl, ha1, ha2⟩ := NV.shape ha
  obtain ⟨b, bcap, rfl, hb1, hb2⟩ := NV.shape hb
  have HA := hide ha
  have HB := hide hb
  unfold maxLen at ha2 hb2
  clear ha hb
  obtain ⟨L, hL⟩ : ∃ L, Hid (l.length = L) := ⟨_, hide rfl⟩
  rw [unhide hL] at ha1 hb1 HA HB ⊢
  have d0 : (((L : Nat) : Int) != (L : Int)) = false := by simp
  go_enter Tryd.func47, Tryd.ntmps47
  go_wp2_with fail
  go_loopg [5] L (fun gg t5 wr => ∃ (i : Nat), Hid (i + gg = L) ∧ t5 = .int .i64 (i : Int) ∧ Hid (Below w.heap.size w wr))
  case atStart => exact ⟨0, by unfold Hid; omega, rfl, hide (Below.refl _ _)⟩
  case round =>
    obtain ⟨i, hi, rfl, hw⟩ := hrel
    by_cases hlt : i < L
    · obtain ⟨x, hx⟩ : ∃ x, l[i]? = some x := ⟨_, List.getElem?_eq_getElem (by rw [unhide hL]; exact hlt)⟩
      have HA' := HA
      have HB' := HB
      rw [← unhide hL] at HA' HB'
      obtain ⟨b1, f1, c1, aa, ac, ea, ec, e1, hb1', _, p1, p2, p3, p4, p5, p6, hxc⟩ := (unhide HA').at hx
      obtain ⟨b2, f2, c2, ba, bc, fa, fc, e2, hb2', _, r1, r2, r3, r4, r5, r6, hyc⟩ := (unhide HB').at hx
      rw [unhide hL] at e1 e2
      cases e1
      cases e2
      have hs := (unhide hw).size
      obtain ⟨x0, x1, x2, x3, x4, x5, x6, x7⟩ := hxc wr ((unhide hw).block b1 hb1')
      have hb1w : b1 < wr.heap.size := by omega
      have hb2w : b2 < wr.heap.size := by omega
      have i0 : (0 : Int) ≤ (i : Int) := by omega
      have i1 : (i : Int) < (L : Int) := by omega
      have HWX := hide (box1n wr (.cells #[.int .i64 x.op, .int .i64 x.code, .int .i64 x.dst, .slice aa x.args.length ac, .int .i64 x.n, .int .i64 x.pc, .int .i64 x.need, .slice ea x.ex.length ec] 51))
      obtain ⟨Wx, hWx⟩ : ∃ Wx, Hid (wr.alloc (.cells #[.int .i64 x.op, .int .i64 x.code, .int .i64 x.dst, .slice aa x.args.length ac, .int .i64 x.n, .int .i64 x.pc, .int .i64 x.need, .slice ea x.ex.length ec] 51) = Wx) := ⟨_, hide rfl⟩
      have HXC : Hid (∀ W, Below Wx.heap.size Wx W → _) := fun W (hW : Below Wx.heap.size Wx W) => blk8 wr 51 (.int .i64 x.op) (.int .i64 x.code) (.int .i64 x.dst) (.slice aa x.args.length ac) (.int .i64 x.n) (.int .i64 x.pc) (.int .i64 x.need) (.slice ea x.ex.length ec) (W := W) (by rw [unhide hWx]; exact hW)
      rw [unhide hWx] at HWX
      have hsx := (unhide HWX).size
      obtain ⟨y0, y1, y2, y3, y4, y5, y6, y7⟩ := hyc Wx (((unhide HWX).block b2 hb2w).trans ((unhide hw).block b2 hb2'))
      have hb2x : b2 < Wx.heap.size := by omega
      have HWY := hide (box1n Wx (.cells #[.int .i64 x.op, .int .i64 x.code, .int .i64 x.dst, .slice ba x.args.length bc, .int .i64 x.n, .int .i64 x.pc, .int .i64 x.need, .slice fa x.ex.length fc] 51))
      obtain ⟨Wy, hWy⟩ : ∃ Wy, Hid (Wx.alloc (.cells #[.int .i64 x.op, .int .i64 x.code, .int .i64 x.dst, .slice ba x.args.length bc, .int .i64 x.n, .int .i64 x.pc, .int .i64 x.need, .slice fa x.ex.length fc] 51) = Wy) := ⟨_, hide rfl⟩
      have HYC : Hid (∀ W, Below Wy.heap.size Wy W → _) := fun W (hW : Below Wy.heap.size Wy W) => blk8 Wx 51 (.int .i64 x.op) (.int .i64 x.code) (.int .i64 x.dst) (.slice ba x.args.length bc) (.int .i64 x.n) (.int .i64 x.pc) (.int .i64 x.need) (.slice fa x.ex.length fc) (W := W) (by rw [unhide hWy]; exact hW)
      rw [unhide hWy] at HWY
      obtain ⟨g0, g1, g2, g3, g4, g5, g6, g7, g8⟩ := unhide HXC Wy (unhide HWY)
      obtain ⟨k0, k1, k2, k3, k4, k5, k6, k7, k8⟩ := unhide HYC Wy (Below.refl _ _)
      have HBW := hide (bl_past (bl_past (unhide hw) (unhide HWX)) (unhide HWY))
      have HC16 := hide (sameOpnds_any (OpV.mv.bel p1 (unhide HBW)) (OpV.mv.bel r1 (unhide HBW)))
      have HC17 := hide (fun n => sameShapes_any (ShsV.mv.bel p4 (bl_past (unhide HBW) (bl_drewN Wy n))) (ShsV.mv.bel r4 (bl_past (unhide HBW) (bl_drewN Wy n))))
      have d1 : (x.op != x.op) = false := by simp
      have d2 : (x.code != x.code) = false := by simp
      have d3 : (x.dst != x.dst) = false := by simp
      have d4 : (x.n != x.n) = false := by simp
      have d5 : (x.pc != x.pc) = false := by simp
      have d6 : (x.need != x.need) = false := by simp
      have hWx' := unhide hWx
      have hWy' := unhide hWy
      unfold maxLen at p3 p6 r3 r6
      clear HA' HB' hx hxc hyc p1 r1 p4 r4 HWX HWY
      go_wp2_with fail
      refine (unhide HC16).mono ?_
      rintro e w1 ⟨rfl, n1, hn1⟩
      subst hn1
      clear HC16 x0 x1 x2 x3 x4 x5 x6 x7 y0 y1 y2 y3 y4 y5 y6 y7 hWx' hWy'
      go_wp2_with fail
      refine (unhide HC17 n1).mono ?_
      rintro e w2 ⟨rfl, n2, hn2⟩
      have HXX : Hid (Below w.heap.size w w2) := by rw [hn2]; exact bl_past (bl_past (unhide HBW) (bl_drewN Wy n1)) (bl_drewN _ n2)
      clear HC17 hn2 g0 g1 g2 g3 g4 g5 g6 g7 g8 k0 k1 k2 k3 k4 k5 k6 k7 k8
      go_wp2_with fail
      go_roundg (gk - 1)
      case measure => have := unhide hi; omega
      case rel => exact ⟨i + 1, by have := unhide hi; unfold Hid; omega, by go_num, HXX⟩
    · have hiL : i = L := by have := unhide hi; omega
      subst hiL
      go_wp2_with fail
      go_ret
      exact ⟨rfl, unhide hw⟩
set_option maxRecDepth 100000 in
set_option maxHeartbeats 6400000 in
theorem sameBlocks_any {w : World} {D D' : Nat → Prop} {av bv : Value} {l : List Bk} (ha : BksV D w l av) (hb : BksV D' w l bv) :
    Calls Tryd.prog 27 #[av, bv] w fun e w' => e = .returned (.bool true) ∧ Below w.heap.size w w' := by
  obtain ⟨a, acap, rfl, ha1, ha2⟩ := NV.shape ha
  obtain ⟨b, bcap, rfl, hb1, hb2⟩ := NV.shape hb
  have HA := hide ha
  have HB := hide hb
  unfold maxLen at ha2 hb2
  clear ha hb
  obtain ⟨L, hL⟩ : ∃ L, Hid (l.length = L) := ⟨_, hide rfl⟩
  rw [unhide hL] at ha1 hb1 HA HB ⊢
  have d0 : (((L : Nat) : Int) != (L : Int)) = false := by simp
  go_enter Tryd.func27, Tryd.ntmps27
  go_wp2_with fail
  go_loopg [5] L (fun gg t5 wr => ∃ (i : Nat), Hid (i + gg = L) ∧ t5 = .int .i64 (i : Int) ∧ Hid (Below w.heap.size w wr))
  case atStart => exact ⟨0, by unfold Hid; omega, rfl, hide (Below.refl _ _)⟩
  case round =>
    obtain ⟨i, hi, rfl, hw⟩ := hrel
    by_cases hlt : i < L
    · obtain ⟨x, hx⟩ : ∃ x, l[i]? = some x := ⟨_, List.getElem?_eq_getElem (by rw [unhide hL]; exact hlt)⟩
      have HA' := HA
      have HB' := HB
      rw [← unhide hL] at HA' HB'
      obtain ⟨b1, f1, c1, ia, ic, na, nc, e1, hb1', _, ⟨_, p1, p2⟩, p3, p4, p5, p6, hxc⟩ := (unhide HA').at hx
      obtain ⟨b2, f2, c2, ja, jc, ma, mc, e2, hb2', _, ⟨_, r1, r2⟩, r3, r4, r5, r6, hyc⟩ := (unhide HB').at hx
      dsimp only at p1 p2 r1 r2
      rw [unhide hL] at e1 e2
      cases e1
      cases e2
      obtain ⟨N, hN⟩ : ∃ N, Hid (x.nx.length = N) := ⟨_, hide rfl⟩
      rw [unhide hN] at p2 r2 p5 r5
      have HSW : Hid (∀ W, Below w.heap.size w W → W.cell? ⟨b1, f1 + i * 3, none⟩ = some (.int .i64 x.pc) ∧ W.cell? ⟨b1, f1 + i * 3 + 1, none⟩ = some (.slice ia x.ins.length ic) ∧ W.cell? ⟨b1, f1 + i * 3 + 2, none⟩ = some (.slice na N nc) ∧ W.cell? ⟨b2, f2 + i * 3, none⟩ = some (.int .i64 x.pc) ∧ W.cell? ⟨b2, f2 + i * 3 + 1, none⟩ = some (.slice ja x.ins.length jc) ∧ W.cell? ⟨b2, f2 + i * 3 + 2, none⟩ = some (.slice ma N mc)) := fun W hW => by
        obtain ⟨q0, q1, q2⟩ := hxc W (hW.block b1 hb1')
        obtain ⟨q3, q4, q5⟩ := hyc W (hW.block b2 hb2')
        rw [unhide hN] at q2 q5
        exact ⟨q0, q1, q2, q3, q4, q5⟩
      have HS0 : Hid (∀ W, Below wr.heap.size wr W → _) := fun W (hW : Below wr.heap.size wr W) => unhide HSW W (bl_past (unhide hw) hW)
      have HC := hide (fun W (hW : Below wr.heap.size wr W) => sameIns_any (InsV.mv.bel p1 (bl_past (unhide hw) hW)) (InsV.mv.bel r1 (bl_past (unhide hw) hW)))
      have HN1 := hide p2
      have HN2 := hide r2
      have hs := (unhide hw).size
      have hb1w : b1 < wr.heap.size := by omega
      have hb2w : b2 < wr.heap.size := by omega
      have i0 : (0 : Int) ≤ (i : Int) := by omega
      have i1 : (i : Int) < (L : Int) := by omega
      have d1 : (x.pc != x.pc) = false := by simp
      have d2 : (((N : Nat) : Int) != (N : Int)) = false := by simp
      unfold maxLen at p4 p6 r4 r6
      obtain ⟨G0, hG0⟩ : ∃ G0 : Nat, Hid (G0 = gk) := ⟨_, hide rfl⟩
      clear HA' HB' hx hxc hyc p1 p2 r1 r2
      go_wp2_with fail
      refine wp_region_held_drew (S := (fun W => W.cell? ⟨b1, f1 + i * 3, none⟩ = some (.int .i64 x.pc) ∧ W.cell? ⟨b1, f1 + i * 3 + 1, none⟩ = some (.slice ia x.ins.length ic) ∧ W.cell? ⟨b1, f1 + i * 3 + 2, none⟩ = some (.slice na N nc) ∧ W.cell? ⟨b2, f2 + i * 3, none⟩ = some (.int .i64 x.pc) ∧ W.cell? ⟨b2, f2 + i * 3 + 1, none⟩ = some (.slice ja x.ins.length jc) ∧ W.cell? ⟨b2, f2 + i * 3 + 2, none⟩ = some (.slice ma N mc))) (by kernel_rfl) (unhide HS0 _ (bl_drew _)) (fun hHeld => ?_)
      clear hHeld
      refine wpAnyH_take (i := 0) (oi := _) (v := .slice (some ⟨b1, f1, none⟩) L acap) rfl (by kernel_rfl) (by kernel_rfl) (by kernel_rfl) (fun _ _ _ h => h) (Or.inl ⟨by rfl, (by intro w' hSw; obtain ⟨s0, s1, s2, s3, s4, s5⟩ := hSw; go_simp)⟩) (unhide HS0 _ (bl_drew _)) ?_
      go_simp
      refine wpAnyH_take (i := 1) (oi := _) (v := .int .i64 (i : Int)) rfl (by kernel_rfl) (by kernel_rfl) (by kernel_rfl) (fun _ _ _ h => h) (Or.inl ⟨by rfl, (by intro w' hSw; obtain ⟨s0, s1, s2, s3, s4, s5⟩ := hSw; go_simp)⟩) (unhide HS0 _ (bl_drew _)) ?_
      go_simp
      refine wpAnyH_take (i := 2) (oi := _) (v := .pointer (some ⟨b1, f1 + i * 3, none⟩)) rfl (by kernel_rfl) (by kernel_rfl) (by kernel_rfl) (fun _ _ _ h => h) (Or.inl ⟨by rfl, (by intro w' hSw; obtain ⟨s0, s1, s2, s3, s4, s5⟩ := hSw; go_simp)⟩) (unhide HS0 _ (bl_drew _)) ?_
      go_simp
      refine wpAnyH_take (i := 3) (oi := _) (v := .pointer (some ⟨b1, f1 + i * 3, none⟩)) rfl (by kernel_rfl) (by kernel_rfl) (by kernel_rfl) (fun _ _ _ h => h) (Or.inl ⟨by rfl, (by intro w' hSw; obtain ⟨s0, s1, s2, s3, s4, s5⟩ := hSw; go_simp)⟩) (unhide HS0 _ (bl_drew _)) ?_
      go_simp
      refine wpAnyH_take (i := 4) (oi := _) (v := .int .i64 x.pc) rfl (by kernel_rfl) (by kernel_rfl) (by kernel_rfl) (fun _ _ _ h => h) (Or.inl ⟨by rfl, (by intro w' hSw; obtain ⟨s0, s1, s2, s3, s4, s5⟩ := hSw; go_simp)⟩) (unhide HS0 _ (bl_drew _)) ?_
      go_simp
      refine wpAnyH_take (i := 5) (oi := _) (v := .slice (some ⟨b2, f2, none⟩) L bcap) rfl (by kernel_rfl) (by kernel_rfl) (by kernel_rfl) (fun _ _ _ h => h) (Or.inl ⟨by rfl, (by intro w' hSw; obtain ⟨s0, s1, s2, s3, s4, s5⟩ := hSw; go_simp)⟩) (unhide HS0 _ (bl_drew _)) ?_
      go_simp
      refine wpAnyH_take (i := 6) (oi := _) (v := .int .i64 (i : Int)) rfl (by kernel_rfl) (by kernel_rfl) (by kernel_rfl) (fun _ _ _ h => h) (Or.inl ⟨by rfl, (by intro w' hSw; obtain ⟨s0, s1, s2, s3, s4, s5⟩ := hSw; go_simp)⟩) (unhide HS0 _ (bl_drew _)) ?_
      go_simp
      refine wpAnyH_take (i := 7) (oi := _) (v := .pointer (some ⟨b2, f2 + i * 3, none⟩)) rfl (by kernel_rfl) (by kernel_rfl) (by kernel_rfl) (fun _ _ _ h => h) (Or.inl ⟨by rfl, (by intro w' hSw; obtain ⟨s0, s1, s2, s3, s4, s5⟩ := hSw; go_simp)⟩) (unhide HS0 _ (bl_drew _)) ?_
      go_simp
      refine wpAnyH_take (i := 8) (oi := _) (v := .pointer (some ⟨b2, f2 + i * 3, none⟩)) rfl (by kernel_rfl) (by kernel_rfl) (by kernel_rfl) (fun _ _ _ h => h) (Or.inl ⟨by rfl, (by intro w' hSw; obtain ⟨s0, s1, s2, s3, s4, s5⟩ := hSw; go_simp)⟩) (unhide HS0 _ (bl_drew _)) ?_
      go_simp
      refine wpAnyH_take (i := 9) (oi := _) (v := .int .i64 x.pc) rfl (by kernel_rfl) (by kernel_rfl) (by kernel_rfl) (fun _ _ _ h => h) (Or.inl ⟨by rfl, (by intro w' hSw; obtain ⟨s0, s1, s2, s3, s4, s5⟩ := hSw; go_simp)⟩) (unhide HS0 _ (bl_drew _)) ?_
      go_simp
      refine wpAnyH_take (i := 10) (oi := _) (v := .bool false) rfl (by kernel_rfl) (by kernel_rfl) (by kernel_rfl) (fun _ _ _ h => h) (Or.inl ⟨by rfl, (by intro w' hSw; obtain ⟨s0, s1, s2, s3, s4, s5⟩ := hSw; go_simp)⟩) (unhide HS0 _ (bl_drew _)) ?_
      go_simp
      refine wpAnyH_take (i := 11) (oi := _) (v := .bool false) rfl (by kernel_rfl) (by kernel_rfl) (by kernel_rfl) (fun _ _ _ h => h) (Or.inl ⟨by rfl, (by intro w' hSw; obtain ⟨s0, s1, s2, s3, s4, s5⟩ := hSw; go_simp)⟩) (unhide HS0 _ (bl_drew _)) ?_
      go_simp
      refine wpAnyH_take (i := 12) (oi := _) (v := .slice (some ⟨b1, f1, none⟩) L acap) rfl (by kernel_rfl) (by kernel_rfl) (by kernel_rfl) (fun _ _ _ h => h) (Or.inl ⟨by rfl, (by intro w' hSw; obtain ⟨s0, s1, s2, s3, s4, s5⟩ := hSw; go_simp)⟩) (unhide HS0 _ (bl_drew _)) ?_
      go_simp
      refine wpAnyH_take (i := 13) (oi := _) (v := .int .i64 (i : Int)) rfl (by kernel_rfl) (by kernel_rfl) (by kernel_rfl) (fun _ _ _ h => h) (Or.inl ⟨by rfl, (by intro w' hSw; obtain ⟨s0, s1, s2, s3, s4, s5⟩ := hSw; go_simp)⟩) (unhide HS0 _ (bl_drew _)) ?_
      go_simp
      refine wpAnyH_take (i := 14) (oi := _) (v := .pointer (some ⟨b1, f1 + i * 3, none⟩)) rfl (by kernel_rfl) (by kernel_rfl) (by kernel_rfl) (fun _ _ _ h => h) (Or.inl ⟨by rfl, (by intro w' hSw; obtain ⟨s0, s1, s2, s3, s4, s5⟩ := hSw; go_simp)⟩) (unhide HS0 _ (bl_drew _)) ?_
      go_simp
      refine wpAnyH_take (i := 15) (oi := _) (v := .pointer (some ⟨b1, f1 + i * 3 + 2, none⟩)) rfl (by kernel_rfl) (by kernel_rfl) (by kernel_rfl) (fun _ _ _ h => h) (Or.inl ⟨by rfl, (by intro w' hSw; obtain ⟨s0, s1, s2, s3, s4, s5⟩ := hSw; go_simp)⟩) (unhide HS0 _ (bl_drew _)) ?_
      go_simp
      refine wpAnyH_take (i := 16) (oi := _) (v := .slice na N nc) rfl (by kernel_rfl) (by kernel_rfl) (by kernel_rfl) (fun _ _ _ h => h) (Or.inl ⟨by rfl, (by intro w' hSw; obtain ⟨s0, s1, s2, s3, s4, s5⟩ := hSw; go_simp)⟩) (unhide HS0 _ (bl_drew _)) ?_
      go_simp
      refine wpAnyH_take (i := 17) (oi := _) (v := .int .i64 (N : Int)) rfl (by kernel_rfl) (by kernel_rfl) (by kernel_rfl) (fun _ _ _ h => h) (Or.inl ⟨by rfl, (by intro w' hSw; obtain ⟨s0, s1, s2, s3, s4, s5⟩ := hSw; go_simp)⟩) (unhide HS0 _ (bl_drew _)) ?_
      go_simp
      refine wpAnyH_take (i := 18) (oi := _) (v := .slice (some ⟨b2, f2, none⟩) L bcap) rfl (by kernel_rfl) (by kernel_rfl) (by kernel_rfl) (fun _ _ _ h => h) (Or.inl ⟨by rfl, (by intro w' hSw; obtain ⟨s0, s1, s2, s3, s4, s5⟩ := hSw; go_simp)⟩) (unhide HS0 _ (bl_drew _)) ?_
      go_simp
      refine wpAnyH_take (i := 19) (oi := _) (v := .int .i64 (i : Int)) rfl (by kernel_rfl) (by kernel_rfl) (by kernel_rfl) (fun _ _ _ h => h) (Or.inl ⟨by rfl, (by intro w' hSw; obtain ⟨s0, s1, s2, s3, s4, s5⟩ := hSw; go_simp)⟩) (unhide HS0 _ (bl_drew _)) ?_
      go_simp
      refine wpAnyH_take (i := 20) (oi := _) (v := .pointer (some ⟨b2, f2 + i * 3, none⟩)) rfl (by kernel_rfl) (by kernel_rfl) (by kernel_rfl) (fun _ _ _ h => h) (Or.inl ⟨by rfl, (by intro w' hSw; obtain ⟨s0, s1, s2, s3, s4, s5⟩ := hSw; go_simp)⟩) (unhide HS0 _ (bl_drew _)) ?_
      go_simp
      refine wpAnyH_take (i := 21) (oi := _) (v := .pointer (some ⟨b2, f2 + i * 3 + 2, none⟩)) rfl (by kernel_rfl) (by kernel_rfl) (by kernel_rfl) (fun _ _ _ h => h) (Or.inl ⟨by rfl, (by intro w' hSw; obtain ⟨s0, s1, s2, s3, s4, s5⟩ := hSw; go_simp)⟩) (unhide HS0 _ (bl_drew _)) ?_
      go_simp
      refine wpAnyH_take (i := 22) (oi := _) (v := .slice ma N mc) rfl (by kernel_rfl) (by kernel_rfl) (by kernel_rfl) (fun _ _ _ h => h) (Or.inl ⟨by rfl, (by intro w' hSw; obtain ⟨s0, s1, s2, s3, s4, s5⟩ := hSw; go_simp)⟩) (unhide HS0 _ (bl_drew _)) ?_
      go_simp
      refine wpAnyH_take (i := 23) (oi := _) (v := .int .i64 (N : Int)) rfl (by kernel_rfl) (by kernel_rfl) (by kernel_rfl) (fun _ _ _ h => h) (Or.inl ⟨by rfl, (by intro w' hSw; obtain ⟨s0, s1, s2, s3, s4, s5⟩ := hSw; go_simp)⟩) (unhide HS0 _ (bl_drew _)) ?_
      go_simp
      refine wpAnyH_take (i := 24) (oi := _) (v := .bool false) rfl (by kernel_rfl) (by kernel_rfl) (by kernel_rfl) (fun _ _ _ h => h) (Or.inl ⟨by rfl, (by intro w' hSw; obtain ⟨s0, s1, s2, s3, s4, s5⟩ := hSw; go_simp)⟩) (unhide HS0 _ (bl_drew _)) ?_
      go_simp
      refine wpAnyH_take (i := 25) (oi := _) (v := .bool false) rfl (by kernel_rfl) (by kernel_rfl) (by kernel_rfl) (fun _ _ _ h => h) (Or.inl ⟨by rfl, (by intro w' hSw; obtain ⟨s0, s1, s2, s3, s4, s5⟩ := hSw; go_simp)⟩) (unhide HS0 _ (bl_drew _)) ?_
      go_simp
      refine wpAnyH_take (i := 26) (oi := _) (v := .bool false) rfl (by kernel_rfl) (by kernel_rfl) (by kernel_rfl) (fun _ _ _ h => h) (Or.inl ⟨by rfl, (by intro w' hSw; obtain ⟨s0, s1, s2, s3, s4, s5⟩ := hSw; go_simp)⟩) (unhide HS0 _ (bl_drew _)) ?_
      go_simp
      refine wpAnyH_take (i := 27) (oi := _) (v := .slice (some ⟨b1, f1, none⟩) L acap) rfl (by kernel_rfl) (by kernel_rfl) (by kernel_rfl) (fun _ _ _ h => h) (Or.inl ⟨by rfl, (by intro w' hSw; obtain ⟨s0, s1, s2, s3, s4, s5⟩ := hSw; go_simp)⟩) (unhide HS0 _ (bl_drew _)) ?_
      go_simp
      refine wpAnyH_take (i := 28) (oi := _) (v := .int .i64 (i : Int)) rfl (by kernel_rfl) (by kernel_rfl) (by kernel_rfl) (fun _ _ _ h => h) (Or.inl ⟨by rfl, (by intro w' hSw; obtain ⟨s0, s1, s2, s3, s4, s5⟩ := hSw; go_simp)⟩) (unhide HS0 _ (bl_drew _)) ?_
      go_simp
      refine wpAnyH_take (i := 29) (oi := _) (v := .pointer (some ⟨b1, f1 + i * 3, none⟩)) rfl (by kernel_rfl) (by kernel_rfl) (by kernel_rfl) (fun _ _ _ h => h) (Or.inl ⟨by rfl, (by intro w' hSw; obtain ⟨s0, s1, s2, s3, s4, s5⟩ := hSw; go_simp)⟩) (unhide HS0 _ (bl_drew _)) ?_
      go_simp
      refine wpAnyH_take (i := 30) (oi := _) (v := .pointer (some ⟨b1, f1 + i * 3 + 1, none⟩)) rfl (by kernel_rfl) (by kernel_rfl) (by kernel_rfl) (fun _ _ _ h => h) (Or.inl ⟨by rfl, (by intro w' hSw; obtain ⟨s0, s1, s2, s3, s4, s5⟩ := hSw; go_simp)⟩) (unhide HS0 _ (bl_drew _)) ?_
      go_simp
      refine wpAnyH_take (i := 31) (oi := _) (v := .slice ia x.ins.length ic) rfl (by kernel_rfl) (by kernel_rfl) (by kernel_rfl) (fun _ _ _ h => h) (Or.inl ⟨by rfl, (by intro w' hSw; obtain ⟨s0, s1, s2, s3, s4, s5⟩ := hSw; go_simp)⟩) (unhide HS0 _ (bl_drew _)) ?_
      go_simp
      refine wpAnyH_take (i := 32) (oi := _) (v := .slice (some ⟨b2, f2, none⟩) L bcap) rfl (by kernel_rfl) (by kernel_rfl) (by kernel_rfl) (fun _ _ _ h => h) (Or.inl ⟨by rfl, (by intro w' hSw; obtain ⟨s0, s1, s2, s3, s4, s5⟩ := hSw; go_simp)⟩) (unhide HS0 _ (bl_drew _)) ?_
      go_simp
      refine wpAnyH_take (i := 33) (oi := _) (v := .int .i64 (i : Int)) rfl (by kernel_rfl) (by kernel_rfl) (by kernel_rfl) (fun _ _ _ h => h) (Or.inl ⟨by rfl, (by intro w' hSw; obtain ⟨s0, s1, s2, s3, s4, s5⟩ := hSw; go_simp)⟩) (unhide HS0 _ (bl_drew _)) ?_
      go_simp
      refine wpAnyH_take (i := 34) (oi := _) (v := .pointer (some ⟨b2, f2 + i * 3, none⟩)) rfl (by kernel_rfl) (by kernel_rfl) (by kernel_rfl) (fun _ _ _ h => h) (Or.inl ⟨by rfl, (by intro w' hSw; obtain ⟨s0, s1, s2, s3, s4, s5⟩ := hSw; go_simp)⟩) (unhide HS0 _ (bl_drew _)) ?_
      go_simp
      refine wpAnyH_take (i := 35) (oi := _) (v := .pointer (some ⟨b2, f2 + i * 3 + 1, none⟩)) rfl (by kernel_rfl) (by kernel_rfl) (by kernel_rfl) (fun _ _ _ h => h) (Or.inl ⟨by rfl, (by intro w' hSw; obtain ⟨s0, s1, s2, s3, s4, s5⟩ := hSw; go_simp)⟩) (unhide HS0 _ (bl_drew _)) ?_
      go_simp
      refine wpAnyH_take (i := 36) (oi := _) (v := .slice ja x.ins.length jc) rfl (by kernel_rfl) (by kernel_rfl) (by kernel_rfl) (fun _ _ _ h => h) (Or.inl ⟨by rfl, (by intro w' hSw; obtain ⟨s0, s1, s2, s3, s4, s5⟩ := hSw; go_simp)⟩) (unhide HS0 _ (bl_drew _)) ?_
      go_simp
      refine wpAnyH_ready (rs := [37]) (by kernel_rfl) (by simp) ?_
      refine AllReadyH.cons (o := _) rfl (fun K hK => ?_) AllReadyH.nil
      go_simp
      refine (unhide HC _ (bl_drew _)).mono ?_
      rintro e w3 ⟨rfl, b3⟩
      have HB3 := hide (bl_past (bl_drew _) b3)
      clear b3
      go_simp
      refine hK.out _ _ (unhide HS0 _ (unhide HB3)) (fun _ => ?_)
      clear hK K
      go_simp
      refine wpAnyH_take (i := 38) (oi := _) (v := .bool false) rfl (by kernel_rfl) (by kernel_rfl) (by kernel_rfl) (fun _ _ _ h => h) (Or.inl ⟨by rfl, (by intro w' hSw; obtain ⟨s0, s1, s2, s3, s4, s5⟩ := hSw; go_simp)⟩) (unhide HS0 _ (unhide HB3)) ?_
      go_simp
      refine wpAnyH_take (i := 39) (oi := _) (v := .bool false) rfl (by kernel_rfl) (by kernel_rfl) (by kernel_rfl) (fun _ _ _ h => h) (Or.inl ⟨by rfl, (by intro w' hSw; obtain ⟨s0, s1, s2, s3, s4, s5⟩ := hSw; go_simp)⟩) (unhide HS0 _ (unhide HB3)) ?_
      go_simp
      refine wpAnyH_done (by kernel_rfl) ?_ _
      go_wp2_with fail
      have HBW := hide (bl_past (unhide hw) (unhide HB3))
      clear HS0 HC hw HB3 hb1w hb2w hs
      go_loopg [6] N (fun gg t6 wq => ∃ (j : Nat), Hid (j + gg = N) ∧ t6 = .int .i64 (j : Int) ∧ Hid (Below w.heap.size w wq))
      case atStart => exact ⟨0, by unfold Hid; omega, rfl, HBW⟩
      case round =>
        clear HBW
        obtain ⟨j, hj, rfl, hw⟩ := hrel
        obtain ⟨s0, s1, s2, s3, s4, s5⟩ := unhide HSW _ (unhide hw)
        have hs := (unhide hw).size
        have hb1w : b1 < wr.heap.size := by omega
        have hb2w : b2 < wr.heap.size := by omega
        by_cases hjt : j < N
        · obtain ⟨n, hn⟩ : ∃ n, x.nx[j]? = some n := ⟨_, List.getElem?_eq_getElem (by rw [unhide hN]; exact hjt)⟩
          have HN1' := HN1
          have HN2' := HN2
          rw [← unhide hN] at HN1' HN2'
          obtain ⟨g1, o1, c1, e1, hg1, _, hc1⟩ := (unhide HN1').at hn
          obtain ⟨g2, o2, c2, e2, hg2, _, hc2⟩ := (unhide HN2').at hn
          rw [unhide hN] at e1 e2
          cases e1
          cases e2
          have k1 := hc1 wr ((unhide hw).block g1 hg1)
          have k2 := hc2 wr ((unhide hw).block g2 hg2)
          have hg1w : g1 < wr.heap.size := by omega
          have hg2w : g2 < wr.heap.size := by omega
          have j0 : (0 : Int) ≤ (j : Int) := by omega
          have j1 : (j : Int) < (N : Int) := by omega
          have d3 : (n != n) = false := by simp
          clear HN1' HN2' hn hc1 hc2
          go_wp2_with fail
          go_quiet (fail)
          have HXX := hide (bl_past (unhide hw) (bl_drewN wr nq))
          obtain ⟨X, hX⟩ : ∃ X, Hid (wr.drewN nq = X) := ⟨_, hide rfl⟩
          rw [unhide hX] at HXX ⊢
          clear hX hw s0 s1 s2 s3 s4 s5 hs k1 k2 hb1w hb2w hg1w hg2w
          go_wp2_with fail
          go_roundg (gk - 1)
          case measure => have := unhide hj; omega
          case rel => exact ⟨j + 1, by have := unhide hj; unfold Hid; omega, by go_num, HXX⟩
        · have hjN : j = N := by have := unhide hj; omega
          subst hjN
          go_wp2_with fail
          go_roundg (G0 - 1)
          case measure => have h1 := unhide hG0; have h2 := unhide hi; omega
          case rel => exact ⟨i + 1, by have h1 := unhide hG0; have h2 := unhide hi; unfold Hid; omega, by go_num, hw⟩
    · have hiL : i = L := by have := unhide hi; omega
      subst hiL
      go_wp2_with fail
      go_ret
      exact ⟨rfl, unhide hw⟩
end Go.Proofs.YtpbdmbmafjkinaaDoor
