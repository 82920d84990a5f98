/-
  The marks are where they were.
-/
import Derived.Test.YtpbdpejhjdoleaaRg4
import Derived.Test.YtpbdpejhjdoleaaRgF
namespace Go.Proofs.Ytpbdpejhjdoleaa
open Go.RowKit
set_option linter.unusedVariables false
set_option linter.unusedSimpArgs false
theorem MR.mark {R : Type} {en : R → List Value} {sz : Nat} {mk : Nat → R} (hz : ∀ x, (en x).length = sz) {D : Nat → Prop} {w : World} {v : Value} (h : MR en sz mk D w v) :
    ∃ n g o c, v = .slice (some ⟨g, o, none⟩) (n + 16) c ∧ n + 16 ≤ c ∧ c ≤ maxLen ∧ g < w.heap.size ∧ ∀ W : World, W.heap[g]? = w.heap[g]? → ∀ j, j < 16 → ∀ q x, (en (mk j))[q]? = some x → W.cell? ⟨g, o + (n + j) * sz + q, none⟩ = some x := by
  obtain ⟨l, b, o, c, rfl, _, hr⟩ := h
  obtain ⟨_, _, _, e2, m1, m2, m3, _⟩ := hr.full (by omega)
  cases e2
  refine ⟨l.length, b, o, c, rfl, m1, m2, m3, fun W hW j hj q x hx => ?_⟩
  have hat : (l ++ mks mk 16)[l.length + j]? = some (mk j) := by
    rw [List.getElem?_append_right (by omega), show l.length + j - l.length = j by omega]; exact mks_at mk hj
  have hrx := Rx.of_ro hr
  rw [show l.length + 16 = (l ++ mks mk 16).length by rw [List.length_append, mks_length]] at hrx
  obtain ⟨_, _, _, e3, _, _, _, hc⟩ := hrx.elem hz hat
  cases e3
  exact (World.cell?_of_block (a := ⟨b, o + (l.length + j) * sz + q, none⟩) hW).trans (hc q x hx)
section
variable {T : Nat → Nat} {w : World} {p : Nat} {cf cr : Int} {cb : Value} {rv : Nat → Value} {vs : Nat → List Value} {bs : List BkR}
/-- One list among those of a tag. -/
theorem HS.list (h : HS T w p cf cr cb rv vs bs) {t : Nat} (h2 : 2 ≤ t) (h5 : t ≤ 5) : ∃ a c, rv t = .slice a (vs t).length c ∧ (vs t).length ≤ c ∧ c ≤ maxLen ∧
    ∀ (i : Nat), i < (vs t).length → ∃ b o u, a = some ⟨b, o, none⟩ ∧ b < w.heap.size ∧ QT t (fun k => T k = 0) w u ∧ ∀ W : World, W.heap[b]? = w.heap[b]? → W.cell? ⟨b, o + i, none⟩ = some u := by
  obtain ⟨a, c, e, hl, hm⟩ := (h.row t h2 h5).shape
  refine ⟨a, c, e, hl, hm, fun i hi => ?_⟩
  have hu : (vs t)[i]? = some ((vs t)[i]) := List.getElem?_eq_getElem hi
  obtain ⟨b, o, c', e', _, _, hb, hc⟩ := (Rx.of_ro (h.row t h2 h5)).elem zV hu
  rw [e] at e'
  cases e'
  refine ⟨b, o, _, rfl, hb, h.el t h2 h5 _ (List.mem_of_getElem? hu), fun W hW => ?_⟩
  have := (World.cell?_of_block (a := ⟨b, o + i * 1 + 0, none⟩) hW).trans (hc 0 _ rfl)
  rwa [Nat.mul_one, Nat.add_zero] at this
end
set_option maxRecDepth 100000 in
set_option maxHeartbeats 12800000 in
theorem marked_any {w0 w : World} {p : Nat} {fn regs : Int} {bl : List Bk} {T : Nat → Nat} {rv : Nat → Value} {vs : Nat → List Value} {rs : List BkR} {g o c : Nat} (h : HD w0 p fn regs bl T rv vs rs g o c w) :
    Calls Try.prog 28 #[.pointer (some ⟨p, 0, none⟩)] w fun e w' => e = .returned (.bool true) ∧ Below w.heap.size w w' := by
  obtain ⟨a2, c2, r2, l2, m2, L2⟩ := h.hs.list (t := 2) (by omega) (by omega)
  obtain ⟨a3, c3, r3, l3, m3, L3⟩ := h.hs.list (t := 3) (by omega) (by omega)
  obtain ⟨a4, c4, r4, l4, m4, L4⟩ := h.hs.list (t := 4) (by omega) (by omega)
  obtain ⟨a5, c5, r5, l5, m5, L5⟩ := h.hs.list (t := 5) (by omega) (by omega)
  obtain ⟨z3, z4, z5, z6, z7, zf, zl⟩ := h.hs.cell
  rw [r2] at z3
  rw [r3] at z4
  rw [r4] at z5
  rw [r5] at z6
  rw [h.r6] at z7
  have HP : Hid (∀ W, Below w.heap.size w W → W.cell? ⟨p, 3, none⟩ = some (.slice a2 (vs 2).length c2) ∧ W.cell? ⟨p, 4, none⟩ = some (.slice a3 (vs 3).length c3) ∧ W.cell? ⟨p, 5, none⟩ = some (.slice a4 (vs 4).length c4) ∧ W.cell? ⟨p, 6, none⟩ = some (.slice a5 (vs 5).length c5) ∧ W.cell? ⟨p, 7, none⟩ = some (.slice (some ⟨g, o, none⟩) (bl.length + 16) c) ∧ p < W.heap.size) := fun W hW =>
    ⟨(hW.cell (p := ⟨p, 3, none⟩) zl).trans z3, (hW.cell (p := ⟨p, 4, none⟩) zl).trans z4, (hW.cell (p := ⟨p, 5, none⟩) zl).trans z5, (hW.cell (p := ⟨p, 6, none⟩) zl).trans z6, (hW.cell (p := ⟨p, 7, none⟩) zl).trans z7, Nat.lt_of_lt_of_le zl hW.size⟩
  have HBR : Hid (MR enBk 3 mkBk (fun _ => True) w (.slice (some ⟨g, o, none⟩) (bl.length + 16) c)) := by
    refine ⟨rs, g, o, c, by rw [h.ln], trivial, ?_⟩
    have q := h.hs.brow
    rw [h.r6, List.length_append, mks_length] at q
    rw [h.ln] at q ⊢
    exact q
  have hn4 := h.c4
  have hn5 := h.c5
  rw [hn4] at HP L4 l4
  rw [hn5] at HP L5 l5
  have HL2 := hide L2
  have HL3 := hide L3
  have HL4 := hide L4
  have HL5 := hide L5
  unfold maxLen at m2 m3 m4 m5
  obtain ⟨N2, hN2⟩ : ∃ N, Hid ((vs 2).length = N) := ⟨_, hide rfl⟩
  obtain ⟨N3, hN3⟩ : ∃ N, Hid ((vs 3).length = N) := ⟨_, hide rfl⟩
  obtain ⟨N5, hN5⟩ : ∃ N, Hid (bl.length = N) := ⟨_, hide rfl⟩
  rw [unhide hN2] at l2 HP HL2
  rw [unhide hN3] at l3 HP HL3
  rw [unhide hN5] at l4 l5 HP HL4 HL5 HBR
  clear L2 L3 L4 L5 z3 z4 z5 z6 z7 zf zl r2 r3 r4 r5 h hn4 hn5
  go_enter Try.func28, Try.ntmps28
  go_wp2_with fail
  go_loopg [3] N2 (fun gg t3 wr => ∃ (i : Nat), Hid (i + gg = N2) ∧ t3 = .int .i64 (i : Int) ∧ Hid (Below w.heap.size w wr))
  case atStart => exact ⟨0, by unfold Hid; omega, rfl, hide (Below.refl _ _)⟩
  case round =>
    obtain ⟨i, hi, rfl, hw⟩ := hrel
    obtain ⟨z3, z4, z5, z6, z7, zl⟩ := unhide HP _ (unhide hw)
    by_cases hlt : i < N2
    · obtain ⟨b, ob, u, ea, hb, hq, hcu⟩ := unhide HL2 i hlt
      subst ea
      obtain ⟨n, mg, mo, mc, eu, hm1, hm2, hm3, hmk⟩ := MR.mark zO (mk := mkO) (by unfold QT at hq; rw [if_pos rfl] at hq; exact hq)
      subst eu
      have k0 := hcu wr ((unhide hw).block b hb)
      have hs := (unhide hw).size
      have hbw : b < wr.heap.size := by omega
      have i0 : (0 : Int) ≤ (i : Int) := by omega
      have i1 : (i : Int) < (N2 : Int) := by omega
      have HCU := hide hcu
      have HMK := hide hmk
      unfold maxLen at hm2
      obtain ⟨G0, hG0⟩ : ∃ G0 : Nat, Hid (G0 = gk) := ⟨_, hide rfl⟩
      clear hcu hmk hq
      go_wp2_with fail
      clear z3 z4 z5 z6 z7 zl k0 hbw hs
      go_loopg [5] 16 (fun gg t5 wq => ∃ (j : Nat), Hid (j + gg = 16) ∧ t5 = .int .i64 (j : Int) ∧ Hid (Below w.heap.size w wq))
      case atStart => exact ⟨0, by unfold Hid; omega, rfl, hw⟩
      case round =>
        clear hw
        obtain ⟨j, hj, rfl, hw⟩ := hrel
        by_cases hjt : j < 16
        · obtain ⟨z3, z4, z5, z6, z7, zl⟩ := unhide HP _ (unhide hw)
          have k0 := unhide HCU wr ((unhide hw).block b hb)
          have hs := (unhide hw).size
          have hbw : b < wr.heap.size := by omega
          have hgw : mg < wr.heap.size := by omega
          have s0 := unhide HMK wr ((unhide hw).block mg hm3) j hjt 0 _ rfl
          have s1 := unhide HMK wr ((unhide hw).block mg hm3) j hjt 1 _ rfl
          have d1 := neqO0 (mkO j)
          unfold opV at d1
          simp only [mkO, Nat.add_zero] at d1 s0 s1
          have j0 : (0 : Int) ≤ (j : Int) := by omega
          have j1 : (j : Int) < 16 := by omega
          go_wp2_with fail
          clear z3 z4 z5 z6 z7 zl k0 hs hbw hgw s0 s1 d1
          go_roundg (gk - 1)
          case measure => have := unhide hj; omega
          case rel => exact ⟨j + 1, by have := unhide hj; unfold Hid; omega, by go_num, hw⟩
        · have hj16 : j = 16 := by have := unhide hj; omega
          subst hj16
          go_wp2_with fail
          go_roundg (G0 - 1)
          case measure => have h1 := unhide hG0; have h2 := unhide hi; omega
          case rel => exact ⟨i + 1, by have h1 := unhide hG0; have h2 := unhide hi; unfold Hid; omega, by go_num, hw⟩
    · have hiN : i = N2 := by have := unhide hi; omega
      clear hi hiN
      go_wp2_with fail
      clear z3 z4 z5 z6 z7 zl
      go_loopg [6] N3 (fun gg t6 wr => ∃ (i : Nat), Hid (i + gg = N3) ∧ t6 = .int .i64 (i : Int) ∧ Hid (Below w.heap.size w wr))
      case atStart => exact ⟨0, by unfold Hid; omega, rfl, hw⟩
      case round =>
        clear hw hlt
        obtain ⟨i, hi, rfl, hw⟩ := hrel
        obtain ⟨z3, z4, z5, z6, z7, zl⟩ := unhide HP _ (unhide hw)
        by_cases hlt : i < N3
        · obtain ⟨b, ob, u, ea, hb, hq, hcu⟩ := unhide HL3 i hlt
          subst ea
          obtain ⟨n, mg, mo, mc, eu, hm1, hm2, hm3, hmk⟩ := MR.mark zSh (mk := mkSh) (by unfold QT at hq; rw [if_neg (by decide), if_pos rfl] at hq; exact hq)
          subst eu
          have k0 := hcu wr ((unhide hw).block b hb)
          have hs := (unhide hw).size
          have hbw : b < wr.heap.size := by omega
          have i0 : (0 : Int) ≤ (i : Int) := by omega
          have i1 : (i : Int) < (N3 : Int) := by omega
          have HCU := hide hcu
          have HMK := hide hmk
          unfold maxLen at hm2
          obtain ⟨G0, hG0⟩ : ∃ G0 : Nat, Hid (G0 = gk) := ⟨_, hide rfl⟩
          clear hcu hmk hq
          go_wp2_with fail
          clear z3 z4 z5 z6 z7 zl k0 hbw hs
          go_loopg [8] 16 (fun gg t5 wq => ∃ (j : Nat), Hid (j + gg = 16) ∧ t5 = .int .i64 (j : Int) ∧ Hid (Below w.heap.size w wq))
          case atStart => exact ⟨0, by unfold Hid; omega, rfl, hw⟩
          case round =>
            clear hw
            obtain ⟨j, hj, rfl, hw⟩ := hrel
            by_cases hjt : j < 16
            · obtain ⟨z3, z4, z5, z6, z7, zl⟩ := unhide HP _ (unhide hw)
              have k0 := unhide HCU wr ((unhide hw).block b hb)
              have hs := (unhide hw).size
              have hbw : b < wr.heap.size := by omega
              have hgw : mg < wr.heap.size := by omega
              have s0 := unhide HMK wr ((unhide hw).block mg hm3) j hjt 0 _ rfl
              have s1 := unhide HMK wr ((unhide hw).block mg hm3) j hjt 1 _ rfl
              have s2 := unhide HMK wr ((unhide hw).block mg hm3) j hjt 2 _ rfl
              simp only [mkSh, Nat.add_zero] at s0 s1 s2
              have d1 : ((j : Int) != (j : Int)) = false := by simp
              have j0 : (0 : Int) ≤ (j : Int) := by omega
              have j1 : (j : Int) < 16 := by omega
              have HWX := hide (bl_past (unhide hw) (box1n wr (.cells #[.int .i64 (-7), .int .i64 (j : Int), .slice none 0 0] 65)))
              go_wp2_with fail
              clear z3 z4 z5 z6 z7 zl k0 hs hbw hgw s0 s1 s2 d1
              go_roundg (gk - 1)
              case measure => have := unhide hj; omega
              case rel => exact ⟨j + 1, by have := unhide hj; unfold Hid; omega, by go_num, HWX⟩
            · have hj16 : j = 16 := by have := unhide hj; omega
              subst hj16
              go_wp2_with fail
              go_roundg (G0 - 1)
              case measure => have h1 := unhide hG0; have h2 := unhide hi; omega
              case rel => exact ⟨i + 1, by have h1 := unhide hG0; have h2 := unhide hi; unfold Hid; omega, by go_num, hw⟩
        · have hiN : i = N3 := by have := unhide hi; omega
          clear hi hiN
          go_wp2_with fail
          clear z3 z4 z5 z6 z7 zl
          go_loopg [10] N5 (fun gg t10 wr => ∃ (i : Nat), Hid (i + gg = N5) ∧ t10 = .int .i64 (i : Int) ∧ Hid (Below w.heap.size w wr))
          case atStart => exact ⟨0, by unfold Hid; omega, rfl, hw⟩
          case round =>
            clear hw hlt
            obtain ⟨i, hi, rfl, hw⟩ := hrel
            obtain ⟨z3, z4, z5, z6, z7, zl⟩ := unhide HP _ (unhide hw)
            by_cases hlt : i < N5
            · obtain ⟨b, ob, u, ea, hb, hq, hcu⟩ := unhide HL5 i hlt
              subst ea
              obtain ⟨b', ob', u', ea', hb', hq', hcu'⟩ := unhide HL4 i hlt
              subst ea'
              obtain ⟨n, mg, mo, mc, eu, hm1, hm2, hm3, hmk⟩ := MR.mark zIn (mk := mkIn) (by unfold QT at hq; rw [if_neg (by decide), if_neg (by decide), if_neg (by decide)] at hq; exact hq)
              subst eu
              obtain ⟨n', mg', mo', mc', eu', hm1', hm2', hm3', hmk'⟩ := MR.mark zI (mk := mkN) (by unfold QT at hq'; rw [if_neg (by decide), if_neg (by decide), if_pos rfl] at hq'; exact hq')
              subst eu'
              have k0 := hcu wr ((unhide hw).block b hb)
              have k0' := hcu' wr ((unhide hw).block b' hb')
              have hs := (unhide hw).size
              have hbw : b < wr.heap.size := by omega
              have hbw' : b' < wr.heap.size := by omega
              have i0 : (0 : Int) ≤ (i : Int) := by omega
              have i1 : (i : Int) < (N5 : Int) := by omega
              have HCU := hide hcu
              have HMK := hide hmk
              have HCU' := hide hcu'
              have HMK' := hide hmk'
              unfold maxLen at hm2 hm2'
              obtain ⟨G0, hG0⟩ : ∃ G0 : Nat, Hid (G0 = gk) := ⟨_, hide rfl⟩
              clear hcu hmk hq hcu' hmk' hq'
              go_wp2_with fail
              clear z3 z4 z5 z6 z7 zl k0 hbw hs k0' hbw'
              go_loopg [13] 16 (fun gg t5 wq => ∃ (j : Nat), Hid (j + gg = 16) ∧ t5 = .int .i64 (j : Int) ∧ Hid (Below w.heap.size w wq))
              case atStart => exact ⟨0, by unfold Hid; omega, rfl, hw⟩
              case round =>
                clear hw
                obtain ⟨j, hj, rfl, hw⟩ := hrel
                by_cases hjt : j < 16
                · obtain ⟨z3, z4, z5, z6, z7, zl⟩ := unhide HP _ (unhide hw)
                  have k0 := unhide HCU wr ((unhide hw).block b hb)
                  have hs := (unhide hw).size
                  have hbw : b < wr.heap.size := by omega
                  have hgw : mg < wr.heap.size := by omega
                  have hM := unhide HMK wr ((unhide hw).block mg hm3) j hjt
                  have s0 := hM 0 _ rfl
                  have s1 := hM 1 _ rfl
                  have s2 := hM 2 _ rfl
                  have s3 := hM 3 _ rfl
                  have s4 := hM 4 _ rfl
                  have s5 := hM 5 _ rfl
                  have s6 := hM 6 _ rfl
                  have s7 := hM 7 _ rfl
                  simp only [mkIn, Nat.add_zero] at s0 s1 s2 s3 s4 s5 s6 s7
                  have d1 : ((j : Int) != (j : Int)) = false := by simp
                  have d2 : ((-7 - (j : Int)) != (-7 - (j : Int))) = false := by simp
                  have j0 : (0 : Int) ≤ (j : Int) := by omega
                  have j1 : (j : Int) < 16 := by omega
                  have HWX := hide (bl_past (unhide hw) (box1n wr (.cells #[.int .i64 (-7), .int .i64 0, .int .i64 0, .slice none 0 0, .int .i64 0, .int .i64 (j : Int), .int .i64 0, .slice none 0 0] 50)))
                  have k0' := unhide HCU' wr ((unhide hw).block b' hb')
                  have hbx : b' < wr.heap.size := by omega
                  have hgx : mg' < wr.heap.size := by omega
                  have q0 := unhide HMK' wr ((unhide hw).block mg' hm3') j hjt 0 _ rfl
                  simp only [mkN, Nat.add_zero, Nat.mul_one] at q0
                  clear hM
                  go_wp2_with fail
                  clear z3 z4 z5 z6 z7 zl k0 hs hbw hgw s0 s1 s2 s3 s4 s5 s6 s7 d1 d2 k0' hbx hgx q0
                  go_roundg (gk - 1)
                  case measure => have := unhide hj; omega
                  case rel => exact ⟨j + 1, by have := unhide hj; unfold Hid; omega, by go_num, HWX⟩
                · have hj16 : j = 16 := by have := unhide hj; omega
                  subst hj16
                  go_wp2_with fail
                  go_roundg (G0 - 1)
                  case measure => have h1 := unhide hG0; have h2 := unhide hi; omega
                  case rel => exact ⟨i + 1, by have h1 := unhide hG0; have h2 := unhide hi; unfold Hid; omega, by go_num, hw⟩
            · have hiN : i = N5 := by have := unhide hi; omega
              clear hi hiN
              obtain ⟨n, mg, mo, mc, eu, hm1, hm2, hm3, hmk⟩ := (unhide HBR).mark zBk
              have hn5 : n = N5 := by cases eu; rfl
              subst hn5
              cases eu
              have HMK := hide hmk
              unfold maxLen at hm2
              clear hmk
              go_wp2_with fail
              clear z3 z4 z5 z6 z7 zl
              go_loopg [16] 16 (fun gg t5 wq => ∃ (j : Nat), Hid (j + gg = 16) ∧ t5 = .int .i64 (j : Int) ∧ Hid (Below w.heap.size w wq))
              case atStart => exact ⟨0, by unfold Hid; omega, rfl, hw⟩
              case round =>
                clear hw
                obtain ⟨j, hj, rfl, hw⟩ := hrel
                by_cases hjt : j < 16
                · obtain ⟨z3, z4, z5, z6, z7, zl⟩ := unhide HP _ (unhide hw)
                  have hs := (unhide hw).size
                  have hgw : g < wr.heap.size := by omega
                  have hM := unhide HMK wr ((unhide hw).block g hm3) j hjt
                  have s0 := hM 0 _ rfl
                  have s1 := hM 1 _ rfl
                  have s2 := hM 2 _ rfl
                  simp only [mkBk, Nat.add_zero] at s0 s1 s2
                  have d2 : ((-7 - (j : Int)) != (-7 - (j : Int))) = false := by simp
                  have j0 : (0 : Int) ≤ (j : Int) := by omega
                  have j1 : (j : Int) < 16 := by omega
                  have HWX := hide (bl_past (unhide hw) (box1n wr (.cells #[.int .i64 (-7 - (j : Int)), .slice none 0 0, .slice none 0 0] 43)))
                  clear hM
                  go_wp2_with fail
                  clear z3 z4 z5 z6 z7 zl hs hgw s0 s1 s2 d2
                  go_roundg (gk - 1)
                  case measure => have := unhide hj; omega
                  case rel => exact ⟨j + 1, by have := unhide hj; unfold Hid; omega, by go_num, HWX⟩
                · have hj16 : j = 16 := by have := unhide hj; omega
                  subst hj16
                  go_wp2_with fail
                  go_ret
                  exact ⟨rfl, unhide hw⟩
end Go.Proofs.Ytpbdpejhjdoleaa
