/-
  LiveAfter's law.
-/
import Derived.Test.YtpbdmbmafjkinaaDoorRg4
import Derived.Test.YtpbdmbmafjkinaaDoorRgF
import Derived.Test.YtpbdmbmafjkinaaDoorOvR
import Derived.Test.YtpbdmbmafjkinaaDoorAf
import Derived.Test.YtpbdmbmafjkinaaDoorApI
import Derived.Test.YtpbdmbmafjkinaaDoorLr0
namespace Go.Proofs.YtpbdmbmafjkinaaDoor
open Go.RowKit
set_option linter.unusedVariables false
set_option linter.unusedSimpArgs false
theorem MR.mark {R : Type} {en : R → List Value} {sz : Nat} {mk : Nat → R} (hz : ∀ x, (en x).length = sz) {D : Nat → Prop} {w : World} {v : Value} (h : MR en sz mk D w v) :
    ∃ n g o c, v = .slice (some ⟨g, o, none⟩) (n + 16) c ∧ n + 16 ≤ c ∧ c ≤ maxLen ∧ g < w.heap.size ∧ ∀ W : World, W.heap[g]? = w.heap[g]? → ∀ j, j < 16 → ∀ q x, (en (mk j))[q]? = some x → W.cell? ⟨g, o + (n + j) * sz + q, none⟩ = some x := by
  obtain ⟨l, b, o, c, rfl, _, hr⟩ := h
  obtain ⟨_, _, _, e2, m1, m2, m3, _⟩ := hr.full (by omega)
  cases e2
  refine ⟨l.length, b, o, c, rfl, m1, m2, m3, fun W hW j hj q x hx => ?_⟩
  have hat : (l ++ mks mk 16)[l.length + j]? = some (mk j) := by
    rw [List.getElem?_append_right (by omega), show l.length + j - l.length = j by omega]; exact mks_at mk hj
  have hrx := Rx.of_ro hr
  rw [show l.length + 16 = (l ++ mks mk 16).length by rw [List.length_append, mks_length]] at hrx
  obtain ⟨_, _, _, e3, _, _, _, hc⟩ := hrx.elem hz hat
  cases e3
  exact (World.cell?_of_block (a := ⟨b, o + (l.length + j) * sz + q, none⟩) hW).trans (hc q x hx)
section
variable {T : Nat → Nat} {w : World} {p : Nat} {cf cr : Int} {cb : Value} {rv : Nat → Value} {vs : Nat → List Value} {bs : List BkR}
/-- One list among those of a tag. -/
theorem HS.list (h : HS T w p cf cr cb rv vs bs) {t : Nat} (h2 : 2 ≤ t) (h5 : t ≤ 5) : ∃ a c, rv t = .slice a (vs t).length c ∧ (vs t).length ≤ c ∧ c ≤ maxLen ∧
    ∀ (i : Nat), i < (vs t).length → ∃ b o u, a = some ⟨b, o, none⟩ ∧ b < w.heap.size ∧ QT t (fun k => T k = 0) w u ∧ ∀ W : World, W.heap[b]? = w.heap[b]? → W.cell? ⟨b, o + i, none⟩ = some u := by
  obtain ⟨a, c, e, hl, hm⟩ := (h.row t h2 h5).shape
  refine ⟨a, c, e, hl, hm, fun i hi => ?_⟩
  have hu : (vs t)[i]? = some ((vs t)[i]) := List.getElem?_eq_getElem hi
  obtain ⟨b, o, c', e', _, _, hb, hc⟩ := (Rx.of_ro (h.row t h2 h5)).elem zV hu
  rw [e] at e'
  cases e'
  refine ⟨b, o, _, rfl, hb, h.el t h2 h5 _ (List.mem_of_getElem? hu), fun W hW => ?_⟩
  have := (World.cell?_of_block (a := ⟨b, o + i * 1 + 0, none⟩) hW).trans (hc 0 _ rfl)
  rwa [Nat.mul_one, Nat.add_zero] at this
end
set_option maxRecDepth 100000 in
set_option maxHeartbeats 12800000 in
theorem marked_any {w0 w : World} {p : Nat} {fn regs : Int} {bl : List Bk} {T : Nat → Nat} {rv : Nat → Value} {vs : Nat → List Value} {rs : List BkR} {g o c : Nat} (h : HD w0 p fn regs bl T rv vs rs g o c w) :
    Calls Tryd.prog 26 #[.pointer (some ⟨p, 0, none⟩)] w fun e w' => e = .returned (.bool true) ∧ Below w.heap.size w w' := by
  obtain ⟨a2, c2, r2, l2, m2, L2⟩ := h.hs.list (t := 2) (by omega) (by omega)
  obtain ⟨a3, c3, r3, l3, m3, L3⟩ := h.hs.list (t := 3) (by omega) (by omega)
  obtain ⟨a4, c4, r4, l4, m4, L4⟩ := h.hs.list (t := 4) (by omega) (by omega)
  obtain ⟨a5, c5, r5, l5, m5, L5⟩ := h.hs.list (t := 5) (by omega) (by omega)
  obtain ⟨z3, z4, z5, z6, z7, zf, zl⟩ := h.hs.cell
  rw [r2] at z3
  rw [r3] at z4
  rw [r4] at z5
  rw [r5] at z6
  rw [h.r6] at z7
  have HP : Hid (∀ W, Below w.heap.size w W → W.cell? ⟨p, 3, none⟩ = some (.slice a2 (vs 2).length c2) ∧ W.cell? ⟨p, 4, none⟩ = some (.slice a3 (vs 3).length c3) ∧ W.cell? ⟨p, 5, none⟩ = some (.slice a4 (vs 4).length c4) ∧ W.cell? ⟨p, 6, none⟩ = some (.slice a5 (vs 5).length c5) ∧ W.cell? ⟨p, 7, none⟩ = some (.slice (some ⟨g, o, none⟩) (bl.length + 16) c) ∧ p < W.heap.size) := fun W hW =>
    ⟨(hW.cell (p := ⟨p, 3, none⟩) zl).trans z3, (hW.cell (p := ⟨p, 4, none⟩) zl).trans z4, (hW.cell (p := ⟨p, 5, none⟩) zl).trans z5, (hW.cell (p := ⟨p, 6, none⟩) zl).trans z6, (hW.cell (p := ⟨p, 7, none⟩) zl).trans z7, Nat.lt_of_lt_of_le zl hW.size⟩
  have HBR : Hid (MR enBk 3 mkBk (fun _ => True) w (.slice (some ⟨g, o, none⟩) (bl.length + 16) c)) := by
    refine ⟨rs, g, o, c, by rw [h.ln], trivial, ?_⟩
    have q := h.hs.brow
    rw [h.r6, List.length_append, mks_length] at q
    rw [h.ln] at q ⊢
    exact q
  have hn4 := h.c4
  have hn5 := h.c5
  rw [hn4] at HP L4 l4
  rw [hn5] at HP L5 l5
  have HL2 := hide L2
  have HL3 := hide L3
  have HL4 := hide L4
  have HL5 := hide L5
  unfold maxLen at m2 m3 m4 m5
  obtain ⟨N2, hN2⟩ : ∃ N, Hid ((vs 2).length = N) := ⟨_, hide rfl⟩
  obtain ⟨N3, hN3⟩ : ∃ N, Hid ((vs 3).length = N) := ⟨_, hide rfl⟩
  obtain ⟨N5, hN5⟩ : ∃ N, Hid (bl.length = N) := ⟨_, hide rfl⟩
  rw [unhide hN2] at l2 HP HL2
  rw [unhide hN3] at l3 HP HL3
  rw [unhide hN5] at l4 l5 HP HL4 HL5 HBR
  clear L2 L3 L4 L5 z3 z4 z5 z6 z7 zf zl r2 r3 r4 r5 h hn4 hn5
  go_enter Tryd.func26, Tryd.ntmps26
  go_wp2_with fail
  go_loopg [3] N2 (fun gg t3 wr => ∃ (i : Nat), Hid (i + gg = N2) ∧ t3 = .int .i64 (i : Int) ∧ Hid (Below w.heap.size w wr))
  case atStart => exact ⟨0, by unfold Hid; omega, rfl, hide (Below.refl _ _)⟩
  case round =>
    obtain ⟨i, hi, rfl, hw⟩ := hrel
    obtain ⟨z3, z4, z5, z6, z7, zl⟩ := unhide HP _ (unhide hw)
    by_cases hlt : i < N2
    · obtain ⟨b, ob, u, ea, hb, hq, hcu⟩ := unhide HL2 i hlt
      subst ea
      obtain ⟨n, mg, mo, mc, eu, hm1, hm2, hm3, hmk⟩ := MR.mark zO (mk := mkO) (by unfold QT at hq; rw [if_pos rfl] at hq; exact hq)
      subst eu
      have k0 := hcu wr ((unhide hw).block b hb)
      have hs := (unhide hw).size
      have hbw : b < wr.heap.size := by omega
      have i0 : (0 : Int) ≤ (i : Int) := by omega
      have i1 : (i : Int) < (N2 : Int) := by omega
      have HCU := hide hcu
      have HMK := hide hmk
      unfold maxLen at hm2
      obtain ⟨G0, hG0⟩ : ∃ G0 : Nat, Hid (G0 = gk) := ⟨_, hide rfl⟩
      clear hcu hmk hq
      go_wp2_with fail
      clear z3 z4 z5 z6 z7 zl k0 hbw hs
      go_loopg [5] 16 (fun gg t5 wq => ∃ (j : Nat), Hid (j + gg = 16) ∧ t5 = .int .i64 (j : Int) ∧ Hid (Below w.heap.size w wq))
      case atStart => exact ⟨0, by unfold Hid; omega, rfl, hw⟩
      case round =>
        clear hw
        obtain ⟨j, hj, rfl, hw⟩ := hrel
        by_cases hjt : j < 16
        · obtain ⟨z3, z4, z5, z6, z7, zl⟩ := unhide HP _ (unhide hw)
          have k0 := unhide HCU wr ((unhide hw).block b hb)
          have hs := (unhide hw).size
          have hbw : b < wr.heap.size := by omega
          have hgw : mg < wr.heap.size := by omega
          have s0 := unhide HMK wr ((unhide hw).block mg hm3) j hjt 0 _ rfl
          have s1 := unhide HMK wr ((unhide hw).block mg hm3) j hjt 1 _ rfl
          have d1 := neqO0 (mkO j)
          unfold opV at d1
          simp only [mkO, Nat.add_zero] at d1 s0 s1
          have j0 : (0 : Int) ≤ (j : Int) := by omega
          have j1 : (j : Int) < 16 := by omega
          go_wp2_with fail
          clear z3 z4 z5 z6 z7 zl k0 hs hbw hgw s0 s1 d1
          go_roundg (gk - 1)
          case measure => have := unhide hj; omega
          case rel => exact ⟨j + 1, by have := unhide hj; unfold Hid; omega, by go_num, hw⟩
        · have hj16 : j = 16 := by have := unhide hj; omega
          subst hj16
          go_wp2_with fail
          go_roundg (G0 - 1)
          case measure => have h1 := unhide hG0; have h2 := unhide hi; omega
          case rel => exact ⟨i + 1, by have h1 := unhide hG0; have h2 := unhide hi; unfold Hid; omega, by go_num, hw⟩
    · have hiN : i = N2 := by have := unhide hi; omega
      clear hi hiN
      go_wp2_with fail
      clear z3 z4 z5 z6 z7 zl
      go_loopg [6] N3 (fun gg t6 wr => ∃ (i : Nat), Hid (i + gg = N3) ∧ t6 = .int .i64 (i : Int) ∧ Hid (Below w.heap.size w wr))
      case atStart => exact ⟨0, by unfold Hid; omega, rfl, hw⟩
      case round =>
        clear hw hlt
        obtain ⟨i, hi, rfl, hw⟩ := hrel
        obtain ⟨z3, z4, z5, z6, z7, zl⟩ := unhide HP _ (unhide hw)
        by_cases hlt : i < N3
        · obtain ⟨b, ob, u, ea, hb, hq, hcu⟩ := unhide HL3 i hlt
          subst ea
          obtain ⟨n, mg, mo, mc, eu, hm1, hm2, hm3, hmk⟩ := MR.mark zSh (mk := mkSh) (by unfold QT at hq; rw [if_neg (by decide), if_pos rfl] at hq; exact hq)
          subst eu
          have k0 := hcu wr ((unhide hw).block b hb)
          have hs := (unhide hw).size
          have hbw : b < wr.heap.size := by omega
          have i0 : (0 : Int) ≤ (i : Int) := by omega
          have i1 : (i : Int) < (N3 : Int) := by omega
          have HCU := hide hcu
          have HMK := hide hmk
          unfold maxLen at hm2
          obtain ⟨G0, hG0⟩ : ∃ G0 : Nat, Hid (G0 = gk) := ⟨_, hide rfl⟩
          clear hcu hmk hq
          go_wp2_with fail
          clear z3 z4 z5 z6 z7 zl k0 hbw hs
          go_loopg [8] 16 (fun gg t5 wq => ∃ (j : Nat), Hid (j + gg = 16) ∧ t5 = .int .i64 (j : Int) ∧ Hid (Below w.heap.size w wq))
          case atStart => exact ⟨0, by unfold Hid; omega, rfl, hw⟩
          case round =>
            clear hw
            obtain ⟨j, hj, rfl, hw⟩ := hrel
            by_cases hjt : j < 16
            · obtain ⟨z3, z4, z5, z6, z7, zl⟩ := unhide HP _ (unhide hw)
              have k0 := unhide HCU wr ((unhide hw).block b hb)
              have hs := (unhide hw).size
              have hbw : b < wr.heap.size := by omega
              have hgw : mg < wr.heap.size := by omega
              have s0 := unhide HMK wr ((unhide hw).block mg hm3) j hjt 0 _ rfl
              have s1 := unhide HMK wr ((unhide hw).block mg hm3) j hjt 1 _ rfl
              have s2 := unhide HMK wr ((unhide hw).block mg hm3) j hjt 2 _ rfl
              simp only [mkSh, Nat.add_zero] at s0 s1 s2
              have d1 : ((j : Int) != (j : Int)) = false := by simp
              have j0 : (0 : Int) ≤ (j : Int) := by omega
              have j1 : (j : Int) < 16 := by omega
              have HWX := hide (bl_past (unhide hw) (box1n wr (.cells #[.int .i64 (-7), .int .i64 (j : Int), .slice none 0 0] 73)))
              go_wp2_with fail
              clear z3 z4 z5 z6 z7 zl k0 hs hbw hgw s0 s1 s2 d1
              go_roundg (gk - 1)
              case measure => have := unhide hj; omega
              case rel => exact ⟨j + 1, by have := unhide hj; unfold Hid; omega, by go_num, HWX⟩
            · have hj16 : j = 16 := by have := unhide hj; omega
              subst hj16
              go_wp2_with fail
              go_roundg (G0 - 1)
              case measure => have h1 := unhide hG0; have h2 := unhide hi; omega
              case rel => exact ⟨i + 1, by have h1 := unhide hG0; have h2 := unhide hi; unfold Hid; omega, by go_num, hw⟩
        · have hiN : i = N3 := by have := unhide hi; omega
          clear hi hiN
          go_wp2_with fail
          clear z3 z4 z5 z6 z7 zl
          go_loopg [10] N5 (fun gg t10 wr => ∃ (i : Nat), Hid (i + gg = N5) ∧ t10 = .int .i64 (i : Int) ∧ Hid (Below w.heap.size w wr))
          case atStart => exact ⟨0, by unfold Hid; omega, rfl, hw⟩
          case round =>
            clear hw hlt
            obtain ⟨i, hi, rfl, hw⟩ := hrel
            obtain ⟨z3, z4, z5, z6, z7, zl⟩ := unhide HP _ (unhide hw)
            by_cases hlt : i < N5
            · obtain ⟨b, ob, u, ea, hb, hq, hcu⟩ := unhide HL5 i hlt
              subst ea
              obtain ⟨b', ob', u', ea', hb', hq', hcu'⟩ := unhide HL4 i hlt
              subst ea'
              obtain ⟨n, mg, mo, mc, eu, hm1, hm2, hm3, hmk⟩ := MR.mark zIn (mk := mkIn) (by unfold QT at hq; rw [if_neg (by decide), if_neg (by decide), if_neg (by decide)] at hq; exact hq)
              subst eu
              obtain ⟨n', mg', mo', mc', eu', hm1', hm2', hm3', hmk'⟩ := MR.mark zI (mk := mkN) (by unfold QT at hq'; rw [if_neg (by decide), if_neg (by decide), if_pos rfl] at hq'; exact hq')
              subst eu'
              have k0 := hcu wr ((unhide hw).block b hb)
              have k0' := hcu' wr ((unhide hw).block b' hb')
              have hs := (unhide hw).size
              have hbw : b < wr.heap.size := by omega
              have hbw' : b' < wr.heap.size := by omega
              have i0 : (0 : Int) ≤ (i : Int) := by omega
              have i1 : (i : Int) < (N5 : Int) := by omega
              have HCU := hide hcu
              have HMK := hide hmk
              have HCU' := hide hcu'
              have HMK' := hide hmk'
              unfold maxLen at hm2 hm2'
              obtain ⟨G0, hG0⟩ : ∃ G0 : Nat, Hid (G0 = gk) := ⟨_, hide rfl⟩
              clear hcu hmk hq hcu' hmk' hq'
              go_wp2_with fail
              clear z3 z4 z5 z6 z7 zl k0 hbw hs k0' hbw'
              go_loopg [13] 16 (fun gg t5 wq => ∃ (j : Nat), Hid (j + gg = 16) ∧ t5 = .int .i64 (j : Int) ∧ Hid (Below w.heap.size w wq))
              case atStart => exact ⟨0, by unfold Hid; omega, rfl, hw⟩
              case round =>
                clear hw
                obtain ⟨j, hj, rfl, hw⟩ := hrel
                by_cases hjt : j < 16
                · obtain ⟨z3, z4, z5, z6, z7, zl⟩ := unhide HP _ (unhide hw)
                  have k0 := unhide HCU wr ((unhide hw).block b hb)
                  have hs := (unhide hw).size
                  have hbw : b < wr.heap.size := by omega
                  have hgw : mg < wr.heap.size := by omega
                  have hM := unhide HMK wr ((unhide hw).block mg hm3) j hjt
                  have s0 := hM 0 _ rfl
                  have s1 := hM 1 _ rfl
                  have s2 := hM 2 _ rfl
                  have s3 := hM 3 _ rfl
                  have s4 := hM 4 _ rfl
                  have s5 := hM 5 _ rfl
                  have s6 := hM 6 _ rfl
                  have s7 := hM 7 _ rfl
                  simp only [mkIn, Nat.add_zero] at s0 s1 s2 s3 s4 s5 s6 s7
                  have d1 : ((j : Int) != (j : Int)) = false := by simp
                  have d2 : ((-7 - (j : Int)) != (-7 - (j : Int))) = false := by simp
                  have j0 : (0 : Int) ≤ (j : Int) := by omega
                  have j1 : (j : Int) < 16 := by omega
                  have HWX := hide (bl_past (unhide hw) (box1n wr (.cells #[.int .i64 (-7), .int .i64 0, .int .i64 0, .slice none 0 0, .int .i64 0, .int .i64 (j : Int), .int .i64 0, .slice none 0 0] 51)))
                  have k0' := unhide HCU' wr ((unhide hw).block b' hb')
                  have hbx : b' < wr.heap.size := by omega
                  have hgx : mg' < wr.heap.size := by omega
                  have q0 := unhide HMK' wr ((unhide hw).block mg' hm3') j hjt 0 _ rfl
                  simp only [mkN, Nat.add_zero, Nat.mul_one] at q0
                  clear hM
                  go_wp2_with fail
                  clear z3 z4 z5 z6 z7 zl k0 hs hbw hgw s0 s1 s2 s3 s4 s5 s6 s7 d1 d2 k0' hbx hgx q0
                  go_roundg (gk - 1)
                  case measure => have := unhide hj; omega
                  case rel => exact ⟨j + 1, by have := unhide hj; unfold Hid; omega, by go_num, HWX⟩
                · have hj16 : j = 16 := by have := unhide hj; omega
                  subst hj16
                  go_wp2_with fail
                  go_roundg (G0 - 1)
                  case measure => have h1 := unhide hG0; have h2 := unhide hi; omega
                  case rel => exact ⟨i + 1, by have h1 := unhide hG0; have h2 := unhide hi; unfold Hid; omega, by go_num, hw⟩
            · have hiN : i = N5 := by have := unhide hi; omega
              clear hi hiN
              obtain ⟨n, mg, mo, mc, eu, hm1, hm2, hm3, hmk⟩ := (unhide HBR).mark zBk
              have hn5 : n = N5 := by cases eu; rfl
              subst hn5
              cases eu
              have HMK := hide hmk
              unfold maxLen at hm2
              clear hmk
              go_wp2_with fail
              clear z3 z4 z5 z6 z7 zl
              go_loopg [16] 16 (fun gg t5 wq => ∃ (j : Nat), Hid (j + gg = 16) ∧ t5 = .int .i64 (j : Int) ∧ Hid (Below w.heap.size w wq))
              case atStart => exact ⟨0, by unfold Hid; omega, rfl, hw⟩
              case round =>
                clear hw
                obtain ⟨j, hj, rfl, hw⟩ := hrel
                by_cases hjt : j < 16
                · obtain ⟨z3, z4, z5, z6, z7, zl⟩ := unhide HP _ (unhide hw)
                  have hs := (unhide hw).size
                  have hgw : g < wr.heap.size := by omega
                  have hM := unhide HMK wr ((unhide hw).block g hm3) j hjt
                  have s0 := hM 0 _ rfl
                  have s1 := hM 1 _ rfl
                  have s2 := hM 2 _ rfl
                  simp only [mkBk, Nat.add_zero] at s0 s1 s2
                  have d2 : ((-7 - (j : Int)) != (-7 - (j : Int))) = false := by simp
                  have j0 : (0 : Int) ≤ (j : Int) := by omega
                  have j1 : (j : Int) < 16 := by omega
                  have HWX := hide (bl_past (unhide hw) (box1n wr (.cells #[.int .i64 (-7 - (j : Int)), .slice none 0 0, .slice none 0 0] 47)))
                  clear hM
                  go_wp2_with fail
                  clear z3 z4 z5 z6 z7 zl hs hgw s0 s1 s2 d2
                  go_roundg (gk - 1)
                  case measure => have := unhide hj; omega
                  case rel => exact ⟨j + 1, by have := unhide hj; unfold Hid; omega, by go_num, HWX⟩
                · have hj16 : j = 16 := by have := unhide hj; omega
                  subst hj16
                  go_wp2_with fail
                  go_ret
                  exact ⟨rfl, unhide hw⟩

set_option linter.unusedVariables false
set_option linter.unusedSimpArgs false
section
variable {w0 w w' : World} {p : Nat} {fn regs : Int} {bl : List Bk} {T : Nat → Nat} {rv : Nat → Value} {vs : Nat → List Value} {rs : List BkR} {g o c : Nat}
theorem HD.bel (h : HD w0 p fn regs bl T rv vs rs g o c w) (f : Below w.heap.size w w') : HD w0 p fn regs bl (tl T w.heap.size 0) rv vs rs g o c w' :=
  ⟨h.hs.below f 0, h.r6, h.ln, fun j b r hb hr => BkP.mv _ _ _ _ _ _ _ (h.el j b r hb hr) (Fr.of_below (S := fun _ => False) f) (fun k hk e => ⟨fun q => q, by rw [tl_lt _ _ hk]; exact e⟩), bl_past h.bw f, h.c4, h.c5, (by obtain ⟨X, hX, hP⟩ := h.xs; exact ⟨X, hX, hP.mv (Fr.of_below (S := fun _ => False) f) (fun k hk e _ => ⟨fun q => q, by rw [tl_lt _ _ hk]; exact e⟩)⟩), fun k hk => by rw [tl_lt _ _ (Nat.lt_of_lt_of_le hk h.bw.size)]; exact h.tk k hk⟩
/-- The blocks that were handed in can be read. -/
theorem HD.blocks (h : HD w0 p fn regs bl T rv vs rs g o c w) : BksV (fun _ => True) w bl (.slice (some ⟨g, o, none⟩) bl.length c) := by
  have q := h.hs.brow
  rw [h.r6, List.length_append, mks_length, h.ln] at q
  have q2 := q.upto rfl (k := bl.length) (by omega)
  rw [flt_take zBk, List.take_append_of_le_length (by rw [h.ln]; exact Nat.le_refl _), List.take_of_length_le (by rw [h.ln]; exact Nat.le_refl _)] at q2
  exact ⟨rs, h.ln, Rd.of_ro q2 (fun _ _ => trivial), fun i b r hb hr => BkP.mv _ _ _ _ _ _ _ (h.el i b r hb hr) (Fr.refl (fun _ => False) w) (fun k _ _ => ⟨fun q => q, trivial⟩)⟩
end
set_option maxRecDepth 100000 in
set_option maxHeartbeats 6400000 in
theorem keptR_any {w0 w : World} {p : Nat} {fn regs cf cr : Int} {bl : List Bk} {T : Nat → Nat} {rv : Nat → Value} {vs : Nat → List Value} {rs : List BkR} {g o c : Nat} {D : Nat → Prop} {blv : Value} (h : HD w0 p fn regs bl T rv vs rs g o c w) (hl : BksV D w bl blv) :
    Calls Tryd.prog 11 #[.pointer (some ⟨p, 0, none⟩), .agg #[.int .i64 cf, .int .i64 cr, blv]] w fun e w' => e = .returned (.bool true) ∧ Below w.heap.size w w' := by
  obtain ⟨a, acap, rfl, ha1, ha2⟩ := NV.shape hl
  obtain ⟨_, gcap, eg, hg1, hg2⟩ := NV.shape h.blocks
  cases eg
  have hg3 : bl.length + 16 ≤ c := by
    have q := h.hs.brow
    rw [h.r6, List.length_append, mks_length, h.ln] at q
    obtain ⟨_, _, e, q1, _⟩ := q.shape
    cases e
    exact q1
  have hbx := box1n w (.cells #[.int .i64 cf, .int .i64 cr, .slice a bl.length acap] 24)
  have hbk := heap_alloc_new w (.cells #[.int .i64 cf, .int .i64 cr, .slice a bl.length acap] 24)
  have HC11 := hide (fun W (hW : Below (w.alloc (.cells #[.int .i64 cf, .int .i64 cr, .slice a bl.length acap] 24)).heap.size (w.alloc (.cells #[.int .i64 cf, .int .i64 cr, .slice a bl.length acap] 24)) W) => marked_any (h.bel (bl_past hbx hW)))
  have HC12 := hide (fun W (hW : Below (w.alloc (.cells #[.int .i64 cf, .int .i64 cr, .slice a bl.length acap] 24)).heap.size (w.alloc (.cells #[.int .i64 cf, .int .i64 cr, .slice a bl.length acap] 24)) W) => sameBlocks_any (h.bel (bl_past hbx hW)).blocks (BksV.mv.bel hl (bl_past hbx hW)))
  have z7 := h.hs.cell.2.2.2.2.1
  have zl := h.hs.lt
  rw [h.r6] at z7
  have hS0 : ∀ W, Below (w.alloc (.cells #[.int .i64 cf, .int .i64 cr, .slice a bl.length acap] 24)).heap.size (w.alloc (.cells #[.int .i64 cf, .int .i64 cr, .slice a bl.length acap] 24)) W → W.cell? ⟨p, 7, none⟩ = some (.slice (some ⟨g, o, none⟩) (bl.length + 16) c) ∧ W.cell? ⟨w.heap.size, 2, none⟩ = some (.slice a bl.length acap) := fun W hW =>
    ⟨((bl_past hbx hW).cell (p := ⟨p, 7, none⟩) zl).trans z7, (blk_cells ((hW.block w.heap.size (by simp)).trans hbk)).1 2⟩
  have HS0 := hide hS0
  have HBX := hide hbx
  obtain ⟨L, hL⟩ : ∃ L, Hid (bl.length = L) := ⟨_, hide rfl⟩
  rw [unhide hL] at ha1 hg1 hg3 HC11 HC12 HS0 HBX ⊢
  unfold maxLen at ha2 hg2
  have n0 : (0 : Int) ≤ (L : Int) := by omega
  have n1 : (L : Int) ≤ (c : Int) := by omega
  clear h hl hbx hbk z7 hS0 zl
  go_enter Tryd.func11, Tryd.ntmps11
  go_wp2_with fail
  refine wp_region_held_drew (S := (fun W => W.cell? ⟨p, 7, none⟩ = some (.slice (some ⟨g, o, none⟩) (L + 16) c) ∧ W.cell? ⟨w.heap.size, 2, none⟩ = some (.slice a L acap))) (by kernel_rfl) (unhide HS0 _ (bl_drew _)) (fun hHeld => ?_)
  clear hHeld
  refine wpAnyH_take (i := 0) (oi := _) (v := .pointer (some ⟨p, 0, none⟩)) rfl (by kernel_rfl) (by kernel_rfl) (by kernel_rfl) (fun _ _ _ h => h) (Or.inl ⟨by rfl, (by intro w' hSw; obtain ⟨s0, s1⟩ := hSw; go_simp)⟩) (unhide HS0 _ (bl_drew _)) ?_
  go_simp
  refine wpAnyH_ready (rs := [1]) (by kernel_rfl) (by simp) ?_
  refine AllReadyH.cons (o := _) rfl (fun K hK => ?_) AllReadyH.nil
  go_simp
  refine (unhide HC11 _ (bl_drew _)).mono ?_
  rintro e w3 ⟨rfl, b3⟩
  have HB3 := hide (bl_past (bl_drew _) b3)
  clear b3
  go_simp
  refine hK.out _ _ (unhide HS0 _ (unhide HB3)) (fun _ => ?_)
  clear hK K
  go_simp
  refine wpAnyH_take (i := 2) (oi := _) (v := .bool true) rfl (by kernel_rfl) (by kernel_rfl) (by kernel_rfl) (fun _ _ _ h => h) (Or.inl ⟨by rfl, (by intro w' hSw; obtain ⟨s0, s1⟩ := hSw; go_simp)⟩) (unhide HS0 _ (unhide HB3)) ?_
  go_simp
  refine wpAnyH_take (i := 3) (oi := _) (v := .pointer (some ⟨p, 0, none⟩)) rfl (by kernel_rfl) (by kernel_rfl) (by kernel_rfl) (fun _ _ _ h => h) (Or.inl ⟨by rfl, (by intro w' hSw; obtain ⟨s0, s1⟩ := hSw; go_simp)⟩) (unhide HS0 _ (unhide HB3)) ?_
  go_simp
  refine wpAnyH_take (i := 4) (oi := _) (v := .pointer (some ⟨p, 0, none⟩)) rfl (by kernel_rfl) (by kernel_rfl) (by kernel_rfl) (fun _ _ _ h => h) (Or.inl ⟨by rfl, (by intro w' hSw; obtain ⟨s0, s1⟩ := hSw; go_simp)⟩) (unhide HS0 _ (unhide HB3)) ?_
  go_simp
  refine wpAnyH_take (i := 5) (oi := _) (v := .pointer (some ⟨p, 7, none⟩)) rfl (by kernel_rfl) (by kernel_rfl) (by kernel_rfl) (fun _ _ _ h => h) (Or.inl ⟨by rfl, (by intro w' hSw; obtain ⟨s0, s1⟩ := hSw; go_simp)⟩) (unhide HS0 _ (unhide HB3)) ?_
  go_simp
  refine wpAnyH_take (i := 6) (oi := _) (v := .slice (some ⟨g, o, none⟩) (L + 16) c) rfl (by kernel_rfl) (by kernel_rfl) (by kernel_rfl) (fun _ _ _ h => h) (Or.inl ⟨by rfl, (by intro w' hSw; obtain ⟨s0, s1⟩ := hSw; go_simp)⟩) (unhide HS0 _ (unhide HB3)) ?_
  go_simp
  refine wpAnyH_take (i := 7) (oi := _) (v := .pointer (some ⟨w.heap.size, 2, none⟩)) rfl (by kernel_rfl) (by kernel_rfl) (by kernel_rfl) (fun _ _ _ h => h) (Or.inl ⟨by rfl, (by intro w' hSw; obtain ⟨s0, s1⟩ := hSw; go_simp)⟩) (unhide HS0 _ (unhide HB3)) ?_
  go_simp
  refine wpAnyH_take (i := 8) (oi := _) (v := .slice a L acap) rfl (by kernel_rfl) (by kernel_rfl) (by kernel_rfl) (fun _ _ _ h => h) (Or.inl ⟨by rfl, (by intro w' hSw; obtain ⟨s0, s1⟩ := hSw; go_simp)⟩) (unhide HS0 _ (unhide HB3)) ?_
  go_simp
  refine wpAnyH_take (i := 9) (oi := _) (v := .int .i64 (L : Int)) rfl (by kernel_rfl) (by kernel_rfl) (by kernel_rfl) (fun _ _ _ h => h) (Or.inl ⟨by rfl, (by intro w' hSw; obtain ⟨s0, s1⟩ := hSw; go_simp)⟩) (unhide HS0 _ (unhide HB3)) ?_
  go_simp
  refine wpAnyH_take (i := 10) (oi := _) (v := .slice (some ⟨g, o, none⟩) L c) rfl (by kernel_rfl) (by kernel_rfl) (by kernel_rfl) (fun _ _ _ h => h) (Or.inl ⟨by rfl, (by intro w' hSw; obtain ⟨s0, s1⟩ := hSw; go_simp)⟩) (unhide HS0 _ (unhide HB3)) ?_
  go_simp
  refine wpAnyH_take (i := 11) (oi := _) (v := .pointer (some ⟨w.heap.size, 2, none⟩)) rfl (by kernel_rfl) (by kernel_rfl) (by kernel_rfl) (fun _ _ _ h => h) (Or.inl ⟨by rfl, (by intro w' hSw; obtain ⟨s0, s1⟩ := hSw; go_simp)⟩) (unhide HS0 _ (unhide HB3)) ?_
  go_simp
  refine wpAnyH_take (i := 12) (oi := _) (v := .slice a L acap) rfl (by kernel_rfl) (by kernel_rfl) (by kernel_rfl) (fun _ _ _ h => h) (Or.inl ⟨by rfl, (by intro w' hSw; obtain ⟨s0, s1⟩ := hSw; go_simp)⟩) (unhide HS0 _ (unhide HB3)) ?_
  go_simp
  refine wpAnyH_ready (rs := [13]) (by kernel_rfl) (by simp) ?_
  refine AllReadyH.cons (o := _) rfl (fun K hK => ?_) AllReadyH.nil
  go_simp
  refine (unhide HC12 _ (unhide HB3)).mono ?_
  rintro e w4 ⟨rfl, b4⟩
  have HB4 := hide (bl_past (unhide HB3) b4)
  clear b4
  go_simp
  refine hK.out _ _ (unhide HS0 _ (unhide HB4)) (fun _ => ?_)
  clear hK K
  go_simp
  refine wpAnyH_take (i := 14) (oi := _) (v := .bool true) rfl (by kernel_rfl) (by kernel_rfl) (by kernel_rfl) (fun _ _ _ h => h) (Or.inl ⟨by rfl, (by intro w' hSw; obtain ⟨s0, s1⟩ := hSw; go_simp)⟩) (unhide HS0 _ (unhide HB4)) ?_
  go_simp
  refine wpAnyH_take (i := 15) (oi := _) (v := .bool true) rfl (by kernel_rfl) (by kernel_rfl) (by kernel_rfl) (fun _ _ _ h => h) (Or.inl ⟨by rfl, (by intro w' hSw; obtain ⟨s0, s1⟩ := hSw; go_simp)⟩) (unhide HS0 _ (unhide HB4)) ?_
  go_simp
  refine wpAnyH_done (by kernel_rfl) ?_ _
  go_wp2_with fail
  go_ret
  exact ⟨rfl, bl_past (unhide HBX) (unhide HB4)⟩

set_option linter.unusedVariables false
set_option linter.unusedSimpArgs false
theorem flt_TB' (X : List TB) : flt enTB X = flt enBk (X.map Prod.fst) := by
  induction X with
  | nil => rfl
  | cons p r ih => simp only [flt, List.flatMap_cons, List.map_cons] at ih ⊢; rw [ih]; rfl
theorem HD.own {w0 w : World} {p : Nat} {fn regs : Int} {bl : List Bk} {T : Nat → Nat} {rv : Nat → Value} {vs : Nat → List Value} {rs : List BkR} {g o c : Nat} (h : HD w0 p fn regs bl T rv vs rs g o c w) :
    ∃ X, OW enTB 3 (PB w0.heap.size) blB (fun k => w0.heap.size ≤ k) w (.slice (some ⟨g, o, none⟩) bl.length c) bl X := by
  obtain ⟨X, hX, hP⟩ := h.xs
  have hXl : X.length = bl.length + 16 := by
    have := congrArg List.length hX
    rw [List.length_map, List.length_append, mks_length, h.ln] at this
    exact this
  have q := h.hs.brow
  rw [h.r6, ← hX, ← flt_TB', List.length_map, hXl] at q
  have hg6 : T g = 6 := h.hs.tag 6 (by omega) (by omega) g (by rw [h.r6]; rfl)
  have hg : w0.heap.size ≤ g := by
    by_cases e : g < w0.heap.size
    · have := h.tk g e; omega
    · omega
  have q2 := q.upto rfl (k := bl.length) (by omega)
  rw [flt_take zTB] at q2
  have hP2 := hP.take bl.length
  have hl : (X.take bl.length).length = bl.length := by rw [List.length_take]; omega
  refine ⟨X.take bl.length, hl, q2, fun k hk => by cases hk; exact hg, fun i u x hu hx => hP2.el i u x hu hx, fun i x k hx hk => ?_, hP2.ap⟩
  have h1 := hP2.bt x k (List.mem_of_getElem? hx) hk
  refine ⟨by have := h1.2.1; show w0.heap.size ≤ k; omega, h1.2.2, fun e => ?_⟩
  have hk' : g = k := by cases e; rfl
  subst hk'
  have h7 := h1.1
  rw [hg6] at h7
  cases h7

set_option linter.unusedVariables false
set_option linter.unusedSimpArgs false
def toI (l : List Nat) : List Int := l.map (fun n : Nat => (n : Int))
theorem toI_len (l : List Nat) : (toI l).length = l.length := by unfold toI; rw [List.length_map]
theorem flt_toI (l : List Nat) : flt enN l = flt enI (toI l) := by
  unfold toI
  induction l with
  | nil => rfl
  | cons p r ih => simp only [flt, List.flatMap_cons, List.map_cons] at ih ⊢; rw [ih]; rfl
theorem sameN_yes {w : World} {av bv : Value} {l : List Nat} (ha : Ro w 1 av l.length (flt enN l)) (hb : Ro w 1 bv l.length (flt enN l)) (hN : l.length ≤ 8796093021952) :
    Calls Tryd.prog 10 #[av, bv] w fun e w' => e = .returned (.bool true) ∧ Below w.heap.size w w' := by
  refine sameI_yes (l := toI l) ?_ ?_ (by rw [toI_len]; exact hN)
  · rw [toI_len, ← flt_toI]; exact Rx.of_ro ha
  · rw [toI_len, ← flt_toI]; exact Rx.of_ro hb
/-- What stands while the law goes on. -/
structure AfS (w : World) (fn regs : Int) (bl : List Bk) (iv : Value) (wv : Value) (wl : List Nat) (w2 : World) (P : Nat) (rv : Nat → Value) (vs : Nat → List Value) (rs : List BkR) (g o cg L : Nat) (V : World) : Prop where
  bw : Below w.heap.size w V
  bx : V.heap[w.heap.size]? = some (.cells #[.int .i64 fn, .int .i64 regs, iv] 24)
  i : BksV (fun k => k < w.heap.size) V bl iv
  wr : Ro V 1 wv wl.length (flt enN wl)
  hg : BksV (fun _ => True) V bl (.slice (some ⟨g, o, none⟩) L cg)
  tt : TT V
  hd : ∃ T, HD w2 P fn regs bl T rv vs rs g o cg V
section
variable {w : World} {fn regs : Int} {bl : List Bk} {iv wv : Value} {wl : List Nat} {w2 : World} {P : Nat} {rv : Nat → Value} {vs : Nat → List Value} {rs : List BkR} {g o cg L : Nat} {V V' : World}
theorem AfS.on (h : AfS w fn regs bl iv wv wl w2 P rv vs rs g o cg L V) (f : Below V.heap.size V V') : AfS w fn regs bl iv wv wl w2 P rv vs rs g o cg L V' :=
  ⟨bl_past h.bw f, (f.block _ (Array.getElem?_eq_some_iff.1 h.bx).1).trans h.bx, BksV.mv.bel h.i f, h.wr.fr (Fr.of_below (S := fun _ => False) f) (fun _ _ e => e), BksV.mv.bel h.hg f, h.tt.below h.tt.1 f, by obtain ⟨T, q⟩ := h.hd; exact ⟨_, q.bel f⟩⟩
theorem AfS.box (h : AfS w fn regs bl iv wv wl w2 P rv vs rs g o cg L V) : w.heap.size < V.heap.size ∧ V.cell? ⟨w.heap.size, 0, none⟩ = some (.int .i64 fn) ∧ V.cell? ⟨w.heap.size, 1, none⟩ = some (.int .i64 regs) ∧ V.cell? ⟨w.heap.size, 2, none⟩ = some iv := by
  obtain ⟨q1, _, q3⟩ := blk_cells h.bx
  exact ⟨q3, q1 0, q1 1, q1 2⟩
theorem AfS.hand (h : AfS w fn regs bl iv wv wl w2 P rv vs rs g o cg L V) (hL : bl.length = L) : P < V.heap.size ∧ V.cell? ⟨P, 0, none⟩ = some (.int .i64 fn) ∧ V.cell? ⟨P, 1, none⟩ = some (.int .i64 regs) ∧ V.cell? ⟨P, 2, none⟩ = some (.slice (some ⟨g, o, none⟩) L cg) := by
  obtain ⟨T, q⟩ := h.hd
  obtain ⟨q1, _, q3⟩ := blk_cells q.hs.box
  exact ⟨q3, q1 0, q1 1, by rw [q1, ← hL]; rfl⟩
end
theorem NR.lt {X1 X : World} {v : Value} {l : List Nat} (h : NR X1 v l X) {k : Nat} (hk : v.ownBlock = some k) : k < X.heap.size := h.row.lt k hk
theorem NR.row2 {X1 X : World} {v : Value} {l : List Nat} (h : NR X1 v l X) : ∃ Q : List Int, Q.length = l.length ∧ Ro X 1 v l.length (flt enI Q) := ⟨toI l, toI_len l, by rw [← flt_toI]; exact h.row⟩
/-- Three values by number. -/
def tri (a b c : Value) (k : Nat) : Value := if k = 0 then a else if k = 1 then b else c
def triN (a b c : Nat) (k : Nat) : Nat := if k = 0 then a else if k = 1 then b else c
set_option maxRecDepth 100000 in
set_option maxHeartbeats 25600000 in
theorem afterLaw {w : World} {fn regs : Int} {bl : List Bk} {v : Value} (h : BksV (fun k => k < w.heap.size) w bl v) (hO : ∀ b ∈ bl, OkB b) (hN : bl.length ≤ 1048576) (hW : bkW bl ≤ 1048576) (hT : TT w) (b i ob oi : Int) :
    Calls Tryd.prog 3 #[.agg #[.int .i64 fn, .int .i64 regs, v], .int .i64 b, .int .i64 i, .int .i64 ob, .int .i64 oi] w fun e w' => e = .returned (.bool true) ∧ Below w.heap.size w w' := by
  obtain ⟨a, c, rfl, ha1, ha2⟩ := NV.shape h
  obtain ⟨L, hL⟩ : ∃ L, Hid (bl.length = L) := ⟨_, hide rfl⟩
  rw [unhide hL] at h hN ha1 ⊢
  have HO := hide hO
  have HOL : Hid (∀ b ∈ bl, OkL b) := fun b hb => (hO b hb).l
  have HWB := hide hW
  obtain ⟨W, hW0⟩ : ∃ W0, Hid (w.alloc (.cells #[.int .i64 fn, .int .i64 regs, .slice a L c] 24) = W0) := ⟨_, hide rfl⟩
  have HWb : Hid (Below w.heap.size w W) := by rw [← unhide hW0]; exact box1n w _
  have hbx := heap_alloc_new w (.cells #[.int .i64 fn, .int .i64 regs, .slice a L c] 24)
  rw [unhide hW0] at hbx
  have HI := hide (BksV.mv.bel h (unhide HWb))
  have HT := hide (hT.below hT.1 (unhide HWb))
  have hW0' := unhide hW0
  obtain ⟨WL, hWL⟩ : ∃ WL, Hid (aft bl b i = WL) := ⟨_, hide rfl⟩
  obtain ⟨OL, hOL⟩ : ∃ OL, Hid (aft bl ob oi = OL) := ⟨_, hide rfl⟩
  have hwl : WL.length ≤ 512 := by rw [← unhide hWL]; exact aft_len _ _ _
  have hol : OL.length ≤ 512 := by rw [← unhide hOL]; exact aft_len _ _ _
  have HC7 := hide (rafter_any (fn := fn) (regs := regs) (unhide HI) (by rw [unhide hL]; exact hN) (unhide HOL) b i)
  rw [unhide hWL] at HC7
  obtain ⟨WN, hWN⟩ : ∃ z, Hid (WL.length = z) := ⟨_, hide rfl⟩
  unfold maxLen at ha2
  have HBX := hide hbx
  have x0 := (blk_cells hbx).1 0
  have x1 := (blk_cells hbx).1 1
  have x2 := (blk_cells hbx).1 2
  have xl := (blk_cells hbx).2.2
  simp at x0 x1 x2
  clear h hO hW hT hbx
  go_enter Tryd.func3, Tryd.ntmps3
  go_wp2_with fail
  refine (unhide HC7).mono ?_
  rintro e W2 ⟨wa, wc, rfl, h2⟩
  have HB2 := hide h2.bel
  have HR2 := hide h2.row
  have HBX2 : Hid (W2.heap[w.heap.size]? = _) := hide ((h2.bel.block _ xl).trans (unhide HBX))
  have HI2 := hide (BksV.mv.bel (unhide HI) h2.bel)
  have HT2 := hide ((unhide HT).below (unhide HT).1 h2.bel)
  have HC8 := hide (handCode_any (fn := fn) (regs := regs) (w := W2) (BksV.lt (unhide HI2) _ (Nat.le_refl _)) (by rw [unhide hL]; omega) (fun b hb => by
    obtain ⟨q1, q2, q3, q4⟩ := unhide HO b hb
    exact ⟨by omega, by omega, fun x hx => ⟨by have := (q4 x hx).1; omega, by have := (q4 x hx).2.1; omega, fun s hs => by have := (q4 x hx).2.2 s hs; omega⟩⟩) (by have := unhide HWB; omega) (by have := unhide HWB; have := bkI_W bl; omega))
  clear x0 x1 x2 xl hW0' hW0 HC7 h2
  have x0 := (blk_cells (unhide HBX2)).1 0
  have x1 := (blk_cells (unhide HBX2)).1 1
  have x2 := (blk_cells (unhide HBX2)).1 2
  have xl := (blk_cells (unhide HBX2)).2.2
  simp at x0 x1 x2
  rw [unhide hWN]
  go_wp2_with fail
  refine (unhide HC8).mono ?_
  rintro e W4 ⟨TG, rv, vs, rs, g, o, cg, rfl, hD⟩
  obtain ⟨P, hP⟩ : ∃ P, Hid (W2.heap.size + 1 = P) := ⟨_, hide rfl⟩
  rw [unhide hP] at hD ⊢
  have hgb := hD.blocks
  have hgc : bl.length ≤ cg := by obtain ⟨_, _, e, q, _⟩ := NV.shape hgb; cases e; exact q
  have hgm : cg ≤ maxLen := by obtain ⟨_, _, e, _, q⟩ := NV.shape hgb; cases e; exact q
  rw [unhide hL] at hgc hgb
  unfold maxLen at hgm
  have HS4 : Hid (AfS w fn regs bl (.slice a L c) (.slice wa WN wc) WL W2 P rv vs rs g o cg L W4) := by
    have q : AfS w fn regs bl (.slice a L c) (.slice wa WL.length wc) WL W2 P rv vs rs g o cg L W4 := ⟨bl_past (bl_past (unhide HWb) (unhide HB2)) hD.bw, (hD.bw.block _ xl).trans (unhide HBX2), BksV.mv.bel (unhide HI2) hD.bw, (unhide HR2).fr (Fr.of_below (S := fun _ => False) hD.bw) (fun _ _ e => e), hgb, (unhide HT2).below (unhide HT2).1 hD.bw, ⟨TG, hD⟩⟩
    rw [unhide hWN] at q
    exact q
  have HAF : Hid (∀ V, AfS w fn regs bl (.slice a L c) (.slice wa WN wc) WL W2 P rv vs rs g o cg L V → ∀ b i, Calls Tryd.prog 9 #[.agg #[.int .i64 fn, .int .i64 regs, .slice (some ⟨g, o, none⟩) L cg], .int .i64 b, .int .i64 i] V (NP V (aft bl b i))) := fun V hV b i => after_any hV.hg (by rw [unhide hL]; exact hN) (unhide HOL) hV.tt b i
  clear x0 x1 x2 xl HC8 hgb hD HBX HBX2 HI HI2 HT HT2 HR2
  obtain ⟨yl, y0, y1, y2⟩ := (unhide HS4).hand (unhide hL)
  go_wp2_with fail
  clear yl y0 y1 y2
  refine (unhide HAF _ (unhide HS4) b i).mono ?_
  rintro e W5 ⟨aa, ac, rfl, h5⟩
  rw [unhide hWL] at h5 ⊢
  have HS5 := hide ((unhide HS4).on h5.bel)
  have HA5 := hide h5
  clear h5
  rw [unhide hWN] at HA5 ⊢
  obtain ⟨yl, y0, y1, y2⟩ := (unhide HS5).hand (unhide hL)
  go_wp2_with fail
  clear yl y0 y1 y2
  refine (unhide HAF _ (unhide HS5) ob oi).mono ?_
  rintro e W6 ⟨oa, oc, rfl, h6⟩
  obtain ⟨ON, hON⟩ : ∃ z, Hid (OL.length = z) := ⟨_, hide rfl⟩
  rw [unhide hOL, unhide hON] at h6 ⊢
  have HS6 := hide ((unhide HS5).on h6.bel)
  have HA6 := hide ((unhide HA5).on h6.bel)
  have HO6 := hide h6
  clear h6
  obtain ⟨yl, y0, y1, y2⟩ := (unhide HS6).hand (unhide hL)
  go_wp2_with fail
  clear yl y0 y1 y2
  refine (unhide HAF _ (unhide HS6) b i).mono ?_
  rintro e W7 ⟨ba, bc, rfl, h7⟩
  rw [unhide hWL, unhide hWN] at h7 ⊢
  have HS7 := hide ((unhide HS6).on h7.bel)
  have HA7 := hide ((unhide HA6).on h7.bel)
  have HO7 := hide ((unhide HO6).on h7.bel)
  have HB7 := hide h7
  clear h7
  have HSN : Hid (∀ V x xc, AfS w fn regs bl (.slice a L c) (.slice wa WN wc) WL W2 P rv vs rs g o cg L V → Ro V 1 (.slice x WN xc) WN (flt enN WL) → Calls Tryd.prog 10 #[.slice x WN xc, .slice wa WN wc] V fun e w' => e = .returned (.bool true) ∧ Below V.heap.size V w') := fun V x xc hV hx => by
    refine sameN_yes (l := WL) ?_ hV.wr (by omega)
    rw [unhide hWN]; exact hx
  have HAa : Hid (∀ k, (Value.slice aa WN ac).ownBlock = some k → W4.heap.size ≤ k ∧ k < W5.heap.size) := fun k hk => ⟨(unhide HA5).own k hk, (unhide HA5).lt hk⟩
  have HOo : Hid (∀ k, (Value.slice oa ON oc).ownBlock = some k → W5.heap.size ≤ k ∧ k < W6.heap.size) := fun k hk => ⟨(unhide HO6).own k hk, (unhide HO6).lt hk⟩
  have HBb : Hid (∀ k, (Value.slice ba WN bc).ownBlock = some k → W6.heap.size ≤ k ∧ k < W7.heap.size) := fun k hk => ⟨(unhide HB7).own k hk, (unhide HB7).lt hk⟩
  have HZ : Hid (W4.heap.size ≤ W5.heap.size ∧ W5.heap.size ≤ W6.heap.size ∧ W6.heap.size ≤ W7.heap.size) := ⟨(unhide HA5).bel.size, (unhide HO6).bel.size, (unhide HB7).bel.size⟩
  go_wp2_with fail
  refine (unhide HSN _ aa ac (unhide HS7) (by have q := (unhide HA7).row; rw [unhide hWN] at q; exact q)).mono ?_
  rintro e W8 ⟨rfl, b8⟩
  have HS8 := hide ((unhide HS7).on b8)
  have HA8 := hide ((unhide HA7).on b8)
  have HO8 := hide ((unhide HO7).on b8)
  have HB8 := hide ((unhide HB7).on b8)
  clear b8
  go_wp2_with fail
  refine (unhide HSN _ ba bc (unhide HS8) (by have q := (unhide HB8).row; rw [unhide hWN] at q; exact q)).mono ?_
  rintro e W9 ⟨rfl, b9⟩
  have HS9 := hide ((unhide HS8).on b9)
  have HA9 := hide ((unhide HA8).on b9)
  have HO9 := hide ((unhide HO8).on b9)
  have HB9 := hide ((unhide HB8).on b9)
  clear b9
  obtain ⟨xl, x0, x1, x2⟩ := (unhide HS9).box
  have HKP : Hid (Calls Tryd.prog 11 #[.pointer (some ⟨P, 0, none⟩), .agg #[.int .i64 fn, .int .i64 regs, .slice a L c]] W9 fun e w' => e = .returned (.bool true) ∧ Below W9.heap.size W9 w') := by
    obtain ⟨T, q⟩ := (unhide HS9).hd
    exact keptR_any q (unhide HS9).i
  go_wp2_with fail
  clear xl x0 x1 x2
  refine (unhide HKP).mono ?_
  rintro e W10 ⟨rfl, b10⟩
  have HS10 := hide ((unhide HS9).on b10)
  have HA10 := hide ((unhide HA9).on b10)
  have HO10 := hide ((unhide HO9).on b10)
  have HB10 := hide ((unhide HB9).on b10)
  clear b10
  obtain ⟨xl, x0, x1, x2⟩ := (unhide HS10).box
  have HRA := hide (rafter_any (fn := fn) (regs := regs) (unhide HS10).i (by rw [unhide hL]; exact hN) (unhide HOL) ob oi)
  go_wp2_with fail
  clear xl x0 x1 x2
  refine (unhide HRA).mono ?_
  rintro e W11 ⟨ra, rc, rfl, h11⟩
  rw [unhide hOL, unhide hON] at h11 ⊢
  have HS11 := hide ((unhide HS10).on h11.bel)
  have HA11 := hide ((unhide HA10).on h11.bel)
  have HO11 := hide ((unhide HO10).on h11.bel)
  have HB11 := hide ((unhide HB10).on h11.bel)
  have HSO : Hid (Calls Tryd.prog 10 #[.slice oa ON oc, .slice ra ON rc] W11 fun e w' => e = .returned (.bool true) ∧ Below W11.heap.size W11 w') := by
    refine sameN_yes (l := OL) ?_ ?_ (by omega)
    · exact (unhide HO11).row
    · exact h11.row
  clear h11
  go_wp2_with fail
  refine (unhide HSO).mono ?_
  rintro e W12 ⟨rfl, b12⟩
  have HS12 := hide ((unhide HS11).on b12)
  have HA12 := hide ((unhide HA11).on b12)
  have HO12 := hide ((unhide HO11).on b12)
  have HB12 := hide ((unhide HB11).on b12)
  clear b12
  obtain ⟨W13, hW13⟩ : ∃ W13, Hid (W12.alloc (.cells #[.slice aa WN ac, .slice oa ON oc, .slice ba WN bc] 25) = W13) := ⟨_, hide rfl⟩
  have b13 : Below W12.heap.size W12 W13 := by rw [← unhide hW13]; exact box1n W12 _
  have hn13 := heap_alloc_new W12 (.cells #[.slice aa WN ac, .slice oa ON oc, .slice ba WN bc] 25)
  rw [unhide hW13] at hn13
  have hW13' := unhide hW13
  have HAP : Hid (Calls Tryd.prog 12 #[.slice (some ⟨W12.heap.size, 0, none⟩) 3 3] W13 fun e w' => e = .returned (.bool true) ∧ Fr (SV 3 (tri (.slice aa WN ac) (.slice oa ON oc) (.slice ba WN bc))) W13 w') := by
    refine apartI 3 W13 W12.heap.size 0 3 (tri (.slice aa WN ac) (.slice oa ON oc) (.slice ba WN bc)) (triN WN ON WN) ?_
    obtain ⟨q1, _, q3⟩ := blk_cells hn13
    have z := unhide HZ
    refine ⟨fun k hk => ?_, fun k hk => ?_, fun k q hk e => ?_, fun j j' q hj hj' hne e e' => ?_, fun k => ?_, by omega⟩
    · rw [Nat.zero_add, q1]
      match k, hk with
      | 0, _ => rfl
      | 1, _ => rfl
      | 2, _ => rfl
    · match k, hk with
      | 0, _ => have q := ((unhide HA12).on b13).row2; rw [unhide hWN] at q; exact q
      | 1, _ => have q := ((unhide HO12).on b13).row2; rw [unhide hON] at q; exact q
      | 2, _ => have q := ((unhide HB12).on b13).row2; rw [unhide hWN] at q; exact q
    · match k, hk with
      | 0, _ => have := (unhide HA12).lt e; omega
      | 1, _ => have := (unhide HO12).lt e; omega
      | 2, _ => have := (unhide HB12).lt e; omega
    · match j, hj, j', hj' with
      | 0, _, 0, _ => exact hne rfl
      | 1, _, 1, _ => exact hne rfl
      | 2, _, 2, _ => exact hne rfl
      | 0, _, 1, _ => have h1 := unhide HAa q e; have h2 := unhide HOo q e'; omega
      | 0, _, 2, _ => have h1 := unhide HAa q e; have h2 := unhide HBb q e'; omega
      | 1, _, 0, _ => have h1 := unhide HAa q e'; have h2 := unhide HOo q e; omega
      | 1, _, 2, _ => have h1 := unhide HOo q e; have h2 := unhide HBb q e'; omega
      | 2, _, 0, _ => have h1 := unhide HAa q e'; have h2 := unhide HBb q e; omega
      | 2, _, 1, _ => have h1 := unhide HOo q e'; have h2 := unhide HBb q e; omega
    · have h1 : WN ≤ 512 := by rw [← unhide hWN]; exact hwl
      have h2 : ON ≤ 512 := by rw [← unhide hON]; exact hol
      unfold triN
      split
      · omega
      · split <;> omega
  have HZ13 : Hid (Below W4.heap.size W4 W13) := ((unhide HA12).on b13).bel
  go_wp2_with fail
  clear hW13' hW13 hn13
  refine (unhide HAP).mono ?_
  rintro e W14 ⟨rfl, f14⟩
  have b14 : Below W4.heap.size W4 W14 := (unhide HZ13).trans (f14.below (unhide HZ13).size (fun k hk hs => by
    obtain ⟨j, hj, e⟩ := hs
    have z := unhide HZ
    match j, hj with
    | 0, _ => have := unhide HAa k e; omega
    | 1, _ => have := unhide HOo k e; omega
    | 2, _ => have := unhide HBb k e; omega))
  have HS14 := hide ((unhide HS4).on b14)
  clear b14 f14
  obtain ⟨xl, x0, x1, x2⟩ := (unhide HS14).box
  have HFA := hide (after_any (fn := fn) (regs := regs) (unhide HS14).i (by rw [unhide hL]; exact hN) (unhide HOL) (unhide HS14).tt b i)
  go_wp2_with fail
  clear xl x0 x1 x2
  refine (unhide HFA).mono ?_
  rintro e W15 ⟨ya, yc, rfl, h15⟩
  rw [unhide hWL, unhide hWN] at h15 ⊢
  have HS15 := hide ((unhide HS14).on h15.bel)
  have HSY := hide (unhide HSN _ ya yc (unhide HS15) (by have q := h15.row; rw [unhide hWN] at q; exact q))
  clear h15
  go_wp2_with fail
  refine (unhide HSY).mono ?_
  rintro e W16 ⟨rfl, b16⟩
  have HS16 := hide ((unhide HS15).on b16)
  clear b16
  go_wp2_with fail
  go_ret
  exact ⟨rfl, (unhide HS16).bw⟩
end Go.Proofs.YtpbdmbmafjkinaaDoor
