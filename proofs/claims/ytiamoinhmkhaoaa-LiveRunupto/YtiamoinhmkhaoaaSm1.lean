/-
  What is the same: numbers, operands, shapes, instructions, codes.
-/
import Derived.Test.YtiamoinhmkhaoaaRn
namespace Go.Proofs.Ytiamoinhmkhaoaa
open Go.RowKit
set_option linter.unusedVariables false
set_option linter.unusedSimpArgs false
set_option maxRecDepth 100000 in
set_option maxHeartbeats 3200000 in
theorem sameI_yes {w : World} {av bv : Value} {l : List Int} (ha : Rx w 1 av l.length (flt enI l)) (hb : Rx w 1 bv l.length (flt enI l)) (hN : l.length ≤ 8796093021952) :
    Calls Try.prog 20 #[av, bv] w fun e w' => e = .returned (.bool true) ∧ Below w.heap.size w w' := by
  have HA := hide (fun i p (hp : l[i]? = some p) => ha.elem zI hp)
  have HB := hide (fun i p (hp : l[i]? = some p) => hb.elem zI hp)
  obtain ⟨_, a, cap, rfl, hac, hcm, _⟩ := ha
  obtain ⟨_, b, bcap, rfl, hbc, hbm, _⟩ := hb
  unfold maxLen at hcm hbm
  obtain ⟨L, hL⟩ : ∃ L, Hid (l.length = L) := ⟨_, hide rfl⟩
  rw [unhide hL] at hN HA HB hac hbc ⊢
  go_enter Try.func20, Try.ntmps20
  go_wp2_with fail
  go_loopg [5] L (fun gg t5 wr => ∃ (i : Nat), Hid (i + gg = L) ∧ t5 = .int .i64 (i : Int) ∧ Hid (Below w.heap.size w wr))
  case atStart => exact ⟨0, by unfold Hid; omega, rfl, Below.refl _ _⟩
  case round =>
    obtain ⟨i, hi, rfl, hB⟩ := hrel
    by_cases hlt : i < L
    · have hil : i < l.length := by rw [unhide hL]; exact hlt
      obtain ⟨p, hp⟩ : ∃ p, l[i]? = some p := ⟨_, List.getElem?_eq_getElem hil⟩
      obtain ⟨ab, ao, _, e1, _, _, hb1, c⟩ := unhide HA i p hp
      obtain ⟨bb, bo, _, e2, _, _, hb2, d⟩ := unhide HB i p hp
      cases e1
      cases e2
      have k0 : wr.cell? ⟨ab, ao + i, none⟩ = some (.int .i64 p) := ((unhide hB).cell (p := ⟨ab, ao + i, none⟩) hb1).trans (by have := c 0 _ rfl; simpa using this)
      have r0 : wr.cell? ⟨bb, bo + i, none⟩ = some (.int .i64 p) := ((unhide hB).cell (p := ⟨bb, bo + i, none⟩) hb2).trans (by have := d 0 _ rfl; simpa using this)
      have hbr := Nat.lt_of_lt_of_le hb1 (unhide hB).size
      have hgr := Nat.lt_of_lt_of_le hb2 (unhide hB).size
      have i0 : (0 : Int) ≤ (i : Int) := by omega
      have i1 : (i : Int) < (L : Int) := by omega
      clear c d hp
      go_wp2_with fail
      go_quiet (fail)
      have hB3 : Hid (Below w.heap.size w _) := hide ((unhide hB).trans ((Fr.drewN (S := fun _ => False) nq).below (unhide hB).size (fun _ _ e => e)))
      clear hB
      go_wp2_with fail
      go_roundg (gk - 1)
      case measure => have := unhide hi; omega
      case rel => exact ⟨i + 1, by have := unhide hi; unfold Hid; omega, by go_num, hB3⟩
    · have hiL : i = L := by have := unhide hi; omega
      subst hiL
      clear HA HB
      go_wp2_with fail
      go_ret
      exact ⟨rfl, unhide hB⟩
set_option maxRecDepth 100000 in
set_option maxHeartbeats 3200000 in
theorem sameO_yes {w : World} {av bv : Value} {l : List Op} (ha : Rx w 2 av l.length (flt enO l)) (hb : Rx w 2 bv l.length (flt enO l)) (hN : l.length ≤ 8796093021952) :
    Calls Try.prog 47 #[av, bv] w fun e w' => e = .returned (.bool true) ∧ Below w.heap.size w w' := by
  have HA := hide (fun i p (hp : l[i]? = some p) => ha.elem zO hp)
  have HB := hide (fun i p (hp : l[i]? = some p) => hb.elem zO hp)
  obtain ⟨_, a, cap, rfl, hac, hcm, _⟩ := ha
  obtain ⟨_, b, bcap, rfl, hbc, hbm, _⟩ := hb
  unfold maxLen at hcm hbm
  obtain ⟨L, hL⟩ : ∃ L, Hid (l.length = L) := ⟨_, hide rfl⟩
  rw [unhide hL] at hN HA HB hac hbc ⊢
  go_enter Try.func47, Try.ntmps47
  go_wp2_with fail
  go_loopg [5] L (fun gg t5 wr => ∃ (i : Nat), Hid (i + gg = L) ∧ t5 = .int .i64 (i : Int) ∧ Hid (Below w.heap.size w wr))
  case atStart => exact ⟨0, by unfold Hid; omega, rfl, Below.refl _ _⟩
  case round =>
    obtain ⟨i, hi, rfl, hB⟩ := hrel
    by_cases hlt : i < L
    · have hil : i < l.length := by rw [unhide hL]; exact hlt
      obtain ⟨p, hp⟩ : ∃ p, l[i]? = some p := ⟨_, List.getElem?_eq_getElem hil⟩
      obtain ⟨ab, ao, _, e1, _, _, hb1, c⟩ := unhide HA i p hp
      obtain ⟨bb, bo, _, e2, _, _, hb2, d⟩ := unhide HB i p hp
      cases e1
      cases e2
      have k0 : wr.cell? ⟨ab, ao + i * 2, none⟩ = some (.int .i64 p.k) := ((unhide hB).cell (p := ⟨ab, ao + i * 2, none⟩) hb1).trans (by have := c 0 _ rfl; simpa using this)
      have k1 : wr.cell? ⟨ab, ao + i * 2 + 1, none⟩ = some (.int .i64 p.n) := ((unhide hB).cell (p := ⟨ab, ao + i * 2 + 1, none⟩) hb1).trans (by have := c 1 _ rfl; simpa using this)
      have r0 : wr.cell? ⟨bb, bo + i * 2, none⟩ = some (.int .i64 p.k) := ((unhide hB).cell (p := ⟨bb, bo + i * 2, none⟩) hb2).trans (by have := d 0 _ rfl; simpa using this)
      have r1 : wr.cell? ⟨bb, bo + i * 2 + 1, none⟩ = some (.int .i64 p.n) := ((unhide hB).cell (p := ⟨bb, bo + i * 2 + 1, none⟩) hb2).trans (by have := d 1 _ rfl; simpa using this)
      have hbr := Nat.lt_of_lt_of_le hb1 (unhide hB).size
      have hgr := Nat.lt_of_lt_of_le hb2 (unhide hB).size
      have i0 : (0 : Int) ≤ (i : Int) := by omega
      have i1 : (i : Int) < (L : Int) := by omega
      clear c d hp
      go_wp2_with fail
      go_quiet (fail)
      have hB3 : Hid (Below w.heap.size w _) := hide ((unhide hB).trans ((Fr.drewN (S := fun _ => False) nq).below (unhide hB).size (fun _ _ e => e)))
      clear hB
      go_wp2_with fail
      go_roundg (gk - 1)
      case measure => have := unhide hi; omega
      case rel => exact ⟨i + 1, by have := unhide hi; unfold Hid; omega, by go_num, hB3⟩
    · have hiL : i = L := by have := unhide hi; omega
      subst hiL
      clear HA HB
      go_wp2_with fail
      go_ret
      exact ⟨rfl, unhide hB⟩
set_option maxRecDepth 100000 in
set_option maxHeartbeats 6400000 in
theorem sameS_yes {w : World} {D D' : Nat → Prop} {av bv : Value} {l : List Sh} (ha : ShsV D w l av) (hb : ShsV D' w l bv) (hN : l.length ≤ 8796093021952) (hM : ∀ s ∈ l, s.sl.length ≤ 8796093021952) :
    Calls Try.prog 48 #[av, bv] w fun e w' => e = .returned (.bool true) ∧ Below w.heap.size w w' := by
  obtain ⟨a, cap, rfl, hac, hcm⟩ := NV.shape ha
  obtain ⟨b, bcap, rfl, hbc, hbm⟩ := NV.shape hb
  have HA := hide ha
  have HB := hide hb
  have HM := hide hM
  unfold maxLen at hcm hbm
  obtain ⟨L, hL⟩ : ∃ L, Hid (l.length = L) := ⟨_, hide rfl⟩
  rw [unhide hL] at hN HA HB hac hbc ⊢
  clear ha hb hM
  go_enter Try.func48, Try.ntmps48
  go_wp2_with fail
  go_loopg [5] L (fun gg t5 wr => ∃ (i : Nat), Hid (i + gg = L) ∧ t5 = .int .i64 (i : Int) ∧ Hid (Below w.heap.size w wr))
  case atStart => exact ⟨0, by unfold Hid; omega, rfl, Below.refl _ _⟩
  case round =>
    obtain ⟨i, hi, rfl, hB⟩ := hrel
    by_cases hlt : i < L
    · have hil : i < l.length := by rw [unhide hL]; exact hlt
      obtain ⟨s, hp⟩ : ∃ p, l[i]? = some p := ⟨_, List.getElem?_eq_getElem hil⟩
      obtain ⟨ab, ao, _, r, e1, hb1, _, ⟨f1, f2, f3⟩, c⟩ := NV.at zSh (show NV enSh 3 ShP D w l (.slice a L cap) from unhide HA) hp
      obtain ⟨bb, bo, _, q, e2, hb2, _, ⟨g1, g2, g3⟩, d⟩ := NV.at zSh (show NV enSh 3 ShP D' w l (.slice b L bcap) from unhide HB) hp
      rw [unhide hL] at e1 e2
      cases e1
      cases e2
      obtain ⟨rfn, rpc, rv⟩ := r
      obtain ⟨qfn, qpc, qv⟩ := q
      simp only at f1 f2 f3 g1 g2 g3
      subst f1 f2 g1 g2
      obtain ⟨xa, xc, ex, hx1, hx2⟩ := f3.1.shape
      obtain ⟨ya, yc, ey, hy1, hy2⟩ := g3.1.shape
      subst ex ey
      obtain ⟨SL, hSL⟩ : ∃ z, Hid (s.sl.length = z) := ⟨_, hide rfl⟩
      have HCS : Hid (∀ W, Below w.heap.size w W → Calls Try.prog 47 #[.slice xa SL xc, .slice ya SL yc] W fun e w' => e = .returned (.bool true) ∧ Below W.heap.size W w') := fun W hW => by
        rw [← unhide hSL]
        exact sameO_yes (f3.1.below hW (Nat.le_refl _)) (g3.1.below hW (Nat.le_refl _)) (unhide HM s (List.mem_of_getElem? hp))
      rw [unhide hSL] at c d
      have HSW : Hid (∀ W, Below w.heap.size w W → (fun W => W.cell? ⟨ab, ao + i * 3, none⟩ = some (.int .i64 s.fn) ∧ W.cell? ⟨ab, ao + i * 3 + 1, none⟩ = some (.int .i64 s.pc) ∧ W.cell? ⟨ab, ao + i * 3 + 2, none⟩ = some (.slice xa SL xc) ∧ W.cell? ⟨bb, bo + i * 3, none⟩ = some (.int .i64 s.fn) ∧ W.cell? ⟨bb, bo + i * 3 + 1, none⟩ = some (.int .i64 s.pc) ∧ W.cell? ⟨bb, bo + i * 3 + 2, none⟩ = some (.slice ya SL yc)) W) := fun W hW => by
        have k0 := (hW.cell (p := ⟨ab, ao + i * 3 + 0, none⟩) hb1).trans (c 0 _ rfl)
        have r0 := (hW.cell (p := ⟨bb, bo + i * 3 + 0, none⟩) hb2).trans (d 0 _ rfl)
        exact ⟨k0, (hW.cell (p := ⟨ab, ao + i * 3 + 1, none⟩) hb1).trans (c 1 _ rfl), (hW.cell (p := ⟨ab, ao + i * 3 + 2, none⟩) hb1).trans (c 2 _ rfl), r0, (hW.cell (p := ⟨bb, bo + i * 3 + 1, none⟩) hb2).trans (d 1 _ rfl), (hW.cell (p := ⟨bb, bo + i * 3 + 2, none⟩) hb2).trans (d 2 _ rfl)⟩
      have i0 : (0 : Int) ≤ (i : Int) := by omega
      have i1 : (i : Int) < (L : Int) := by omega
      clear c d hp f3 g3
      go_wp2_with fail
      obtain ⟨Y, hY⟩ : ∃ W, Hid (wr.drew = W) := ⟨_, hide rfl⟩
      have HBY : Hid (Below w.heap.size w Y) := by rw [← unhide hY]; exact (unhide hB).trans ⟨rfl, rfl, rfl, Nat.le_refl _, fun _ _ => rfl⟩
      have HSY := hide (unhide HSW Y (unhide HBY))
      refine wp_region_held_drew (S := (fun W => W.cell? ⟨ab, ao + i * 3, none⟩ = some (.int .i64 s.fn) ∧ W.cell? ⟨ab, ao + i * 3 + 1, none⟩ = some (.int .i64 s.pc) ∧ W.cell? ⟨ab, ao + i * 3 + 2, none⟩ = some (.slice xa SL xc) ∧ W.cell? ⟨bb, bo + i * 3, none⟩ = some (.int .i64 s.fn) ∧ W.cell? ⟨bb, bo + i * 3 + 1, none⟩ = some (.int .i64 s.pc) ∧ W.cell? ⟨bb, bo + i * 3 + 2, none⟩ = some (.slice ya SL yc))) (by kernel_rfl) (by rw [unhide hY]; exact unhide HSY) (fun hHeld => ?_)
      clear hHeld
      rw [unhide hY]
      clear hY
      refine wpAnyH_take (i := 0) (oi := _) (v := .slice (some ⟨ab, ao, none⟩) L cap) rfl (by kernel_rfl) (by kernel_rfl) (by kernel_rfl) (fun _ _ _ h => h) (Or.inl ⟨by rfl, (by intro w' hSw; obtain ⟨s1, s2, s3, s4, s5, s6⟩ := hSw; go_simp)⟩) (unhide HSY) ?_
      go_simp
      refine wpAnyH_take (i := 1) (oi := _) (v := .int .i64 (i : Int)) rfl (by kernel_rfl) (by kernel_rfl) (by kernel_rfl) (fun _ _ _ h => h) (Or.inl ⟨by rfl, (by intro w' hSw; obtain ⟨s1, s2, s3, s4, s5, s6⟩ := hSw; go_simp)⟩) (unhide HSY) ?_
      go_simp
      refine wpAnyH_take (i := 2) (oi := _) (v := .pointer (some ⟨ab, ao + i * 3, none⟩)) rfl (by kernel_rfl) (by kernel_rfl) (by kernel_rfl) (fun _ _ _ h => h) (Or.inl ⟨by rfl, (by intro w' hSw; obtain ⟨s1, s2, s3, s4, s5, s6⟩ := hSw; go_simp)⟩) (unhide HSY) ?_
      go_simp
      refine wpAnyH_take (i := 3) (oi := _) (v := .pointer (some ⟨ab, ao + i * 3, none⟩)) rfl (by kernel_rfl) (by kernel_rfl) (by kernel_rfl) (fun _ _ _ h => h) (Or.inl ⟨by rfl, (by intro w' hSw; obtain ⟨s1, s2, s3, s4, s5, s6⟩ := hSw; go_simp)⟩) (unhide HSY) ?_
      go_simp
      refine wpAnyH_take (i := 4) (oi := _) (v := .int .i64 s.fn) rfl (by kernel_rfl) (by kernel_rfl) (by kernel_rfl) (fun _ _ _ h => h) (Or.inl ⟨by rfl, (by intro w' hSw; obtain ⟨s1, s2, s3, s4, s5, s6⟩ := hSw; go_simp)⟩) (unhide HSY) ?_
      go_simp
      refine wpAnyH_take (i := 5) (oi := _) (v := .slice (some ⟨bb, bo, none⟩) L bcap) rfl (by kernel_rfl) (by kernel_rfl) (by kernel_rfl) (fun _ _ _ h => h) (Or.inl ⟨by rfl, (by intro w' hSw; obtain ⟨s1, s2, s3, s4, s5, s6⟩ := hSw; go_simp)⟩) (unhide HSY) ?_
      go_simp
      refine wpAnyH_take (i := 6) (oi := _) (v := .int .i64 (i : Int)) rfl (by kernel_rfl) (by kernel_rfl) (by kernel_rfl) (fun _ _ _ h => h) (Or.inl ⟨by rfl, (by intro w' hSw; obtain ⟨s1, s2, s3, s4, s5, s6⟩ := hSw; go_simp)⟩) (unhide HSY) ?_
      go_simp
      refine wpAnyH_take (i := 7) (oi := _) (v := .pointer (some ⟨bb, bo + i * 3, none⟩)) rfl (by kernel_rfl) (by kernel_rfl) (by kernel_rfl) (fun _ _ _ h => h) (Or.inl ⟨by rfl, (by intro w' hSw; obtain ⟨s1, s2, s3, s4, s5, s6⟩ := hSw; go_simp)⟩) (unhide HSY) ?_
      go_simp
      refine wpAnyH_take (i := 8) (oi := _) (v := .pointer (some ⟨bb, bo + i * 3, none⟩)) rfl (by kernel_rfl) (by kernel_rfl) (by kernel_rfl) (fun _ _ _ h => h) (Or.inl ⟨by rfl, (by intro w' hSw; obtain ⟨s1, s2, s3, s4, s5, s6⟩ := hSw; go_simp)⟩) (unhide HSY) ?_
      go_simp
      refine wpAnyH_take (i := 9) (oi := _) (v := .int .i64 s.fn) rfl (by kernel_rfl) (by kernel_rfl) (by kernel_rfl) (fun _ _ _ h => h) (Or.inl ⟨by rfl, (by intro w' hSw; obtain ⟨s1, s2, s3, s4, s5, s6⟩ := hSw; go_simp)⟩) (unhide HSY) ?_
      go_simp
      refine wpAnyH_take (i := 10) (oi := _) (v := .bool false) rfl (by kernel_rfl) (by kernel_rfl) (by kernel_rfl) (fun _ _ _ h => h) (Or.inl ⟨by rfl, (by intro w' hSw; obtain ⟨s1, s2, s3, s4, s5, s6⟩ := hSw; go_simp)⟩) (unhide HSY) ?_
      go_simp
      refine wpAnyH_take (i := 11) (oi := _) (v := .bool false) rfl (by kernel_rfl) (by kernel_rfl) (by kernel_rfl) (fun _ _ _ h => h) (Or.inl ⟨by rfl, (by intro w' hSw; obtain ⟨s1, s2, s3, s4, s5, s6⟩ := hSw; go_simp)⟩) (unhide HSY) ?_
      go_simp
      refine wpAnyH_take (i := 12) (oi := _) (v := .slice (some ⟨ab, ao, none⟩) L cap) rfl (by kernel_rfl) (by kernel_rfl) (by kernel_rfl) (fun _ _ _ h => h) (Or.inl ⟨by rfl, (by intro w' hSw; obtain ⟨s1, s2, s3, s4, s5, s6⟩ := hSw; go_simp)⟩) (unhide HSY) ?_
      go_simp
      refine wpAnyH_take (i := 13) (oi := _) (v := .int .i64 (i : Int)) rfl (by kernel_rfl) (by kernel_rfl) (by kernel_rfl) (fun _ _ _ h => h) (Or.inl ⟨by rfl, (by intro w' hSw; obtain ⟨s1, s2, s3, s4, s5, s6⟩ := hSw; go_simp)⟩) (unhide HSY) ?_
      go_simp
      refine wpAnyH_take (i := 14) (oi := _) (v := .pointer (some ⟨ab, ao + i * 3, none⟩)) rfl (by kernel_rfl) (by kernel_rfl) (by kernel_rfl) (fun _ _ _ h => h) (Or.inl ⟨by rfl, (by intro w' hSw; obtain ⟨s1, s2, s3, s4, s5, s6⟩ := hSw; go_simp)⟩) (unhide HSY) ?_
      go_simp
      refine wpAnyH_take (i := 15) (oi := _) (v := .pointer (some ⟨ab, ao + i * 3 + 1, none⟩)) rfl (by kernel_rfl) (by kernel_rfl) (by kernel_rfl) (fun _ _ _ h => h) (Or.inl ⟨by rfl, (by intro w' hSw; obtain ⟨s1, s2, s3, s4, s5, s6⟩ := hSw; go_simp)⟩) (unhide HSY) ?_
      go_simp
      refine wpAnyH_take (i := 16) (oi := _) (v := .int .i64 s.pc) rfl (by kernel_rfl) (by kernel_rfl) (by kernel_rfl) (fun _ _ _ h => h) (Or.inl ⟨by rfl, (by intro w' hSw; obtain ⟨s1, s2, s3, s4, s5, s6⟩ := hSw; go_simp)⟩) (unhide HSY) ?_
      go_simp
      refine wpAnyH_take (i := 17) (oi := _) (v := .slice (some ⟨bb, bo, none⟩) L bcap) rfl (by kernel_rfl) (by kernel_rfl) (by kernel_rfl) (fun _ _ _ h => h) (Or.inl ⟨by rfl, (by intro w' hSw; obtain ⟨s1, s2, s3, s4, s5, s6⟩ := hSw; go_simp)⟩) (unhide HSY) ?_
      go_simp
      refine wpAnyH_take (i := 18) (oi := _) (v := .int .i64 (i : Int)) rfl (by kernel_rfl) (by kernel_rfl) (by kernel_rfl) (fun _ _ _ h => h) (Or.inl ⟨by rfl, (by intro w' hSw; obtain ⟨s1, s2, s3, s4, s5, s6⟩ := hSw; go_simp)⟩) (unhide HSY) ?_
      go_simp
      refine wpAnyH_take (i := 19) (oi := _) (v := .pointer (some ⟨bb, bo + i * 3, none⟩)) rfl (by kernel_rfl) (by kernel_rfl) (by kernel_rfl) (fun _ _ _ h => h) (Or.inl ⟨by rfl, (by intro w' hSw; obtain ⟨s1, s2, s3, s4, s5, s6⟩ := hSw; go_simp)⟩) (unhide HSY) ?_
      go_simp
      refine wpAnyH_take (i := 20) (oi := _) (v := .pointer (some ⟨bb, bo + i * 3 + 1, none⟩)) rfl (by kernel_rfl) (by kernel_rfl) (by kernel_rfl) (fun _ _ _ h => h) (Or.inl ⟨by rfl, (by intro w' hSw; obtain ⟨s1, s2, s3, s4, s5, s6⟩ := hSw; go_simp)⟩) (unhide HSY) ?_
      go_simp
      refine wpAnyH_take (i := 21) (oi := _) (v := .int .i64 s.pc) rfl (by kernel_rfl) (by kernel_rfl) (by kernel_rfl) (fun _ _ _ h => h) (Or.inl ⟨by rfl, (by intro w' hSw; obtain ⟨s1, s2, s3, s4, s5, s6⟩ := hSw; go_simp)⟩) (unhide HSY) ?_
      go_simp
      refine wpAnyH_take (i := 22) (oi := _) (v := .bool false) rfl (by kernel_rfl) (by kernel_rfl) (by kernel_rfl) (fun _ _ _ h => h) (Or.inl ⟨by rfl, (by intro w' hSw; obtain ⟨s1, s2, s3, s4, s5, s6⟩ := hSw; go_simp)⟩) (unhide HSY) ?_
      go_simp
      refine wpAnyH_take (i := 23) (oi := _) (v := .bool false) rfl (by kernel_rfl) (by kernel_rfl) (by kernel_rfl) (fun _ _ _ h => h) (Or.inl ⟨by rfl, (by intro w' hSw; obtain ⟨s1, s2, s3, s4, s5, s6⟩ := hSw; go_simp)⟩) (unhide HSY) ?_
      go_simp
      refine wpAnyH_take (i := 24) (oi := _) (v := .bool false) rfl (by kernel_rfl) (by kernel_rfl) (by kernel_rfl) (fun _ _ _ h => h) (Or.inl ⟨by rfl, (by intro w' hSw; obtain ⟨s1, s2, s3, s4, s5, s6⟩ := hSw; go_simp)⟩) (unhide HSY) ?_
      go_simp
      refine wpAnyH_take (i := 25) (oi := _) (v := .slice (some ⟨ab, ao, none⟩) L cap) rfl (by kernel_rfl) (by kernel_rfl) (by kernel_rfl) (fun _ _ _ h => h) (Or.inl ⟨by rfl, (by intro w' hSw; obtain ⟨s1, s2, s3, s4, s5, s6⟩ := hSw; go_simp)⟩) (unhide HSY) ?_
      go_simp
      refine wpAnyH_take (i := 26) (oi := _) (v := .int .i64 (i : Int)) rfl (by kernel_rfl) (by kernel_rfl) (by kernel_rfl) (fun _ _ _ h => h) (Or.inl ⟨by rfl, (by intro w' hSw; obtain ⟨s1, s2, s3, s4, s5, s6⟩ := hSw; go_simp)⟩) (unhide HSY) ?_
      go_simp
      refine wpAnyH_take (i := 27) (oi := _) (v := .pointer (some ⟨ab, ao + i * 3, none⟩)) rfl (by kernel_rfl) (by kernel_rfl) (by kernel_rfl) (fun _ _ _ h => h) (Or.inl ⟨by rfl, (by intro w' hSw; obtain ⟨s1, s2, s3, s4, s5, s6⟩ := hSw; go_simp)⟩) (unhide HSY) ?_
      go_simp
      refine wpAnyH_take (i := 28) (oi := _) (v := .pointer (some ⟨ab, ao + i * 3 + 2, none⟩)) rfl (by kernel_rfl) (by kernel_rfl) (by kernel_rfl) (fun _ _ _ h => h) (Or.inl ⟨by rfl, (by intro w' hSw; obtain ⟨s1, s2, s3, s4, s5, s6⟩ := hSw; go_simp)⟩) (unhide HSY) ?_
      go_simp
      refine wpAnyH_take (i := 29) (oi := _) (v := .slice xa SL xc) rfl (by kernel_rfl) (by kernel_rfl) (by kernel_rfl) (fun _ _ _ h => h) (Or.inl ⟨by rfl, (by intro w' hSw; obtain ⟨s1, s2, s3, s4, s5, s6⟩ := hSw; go_simp)⟩) (unhide HSY) ?_
      go_simp
      refine wpAnyH_take (i := 30) (oi := _) (v := .slice (some ⟨bb, bo, none⟩) L bcap) rfl (by kernel_rfl) (by kernel_rfl) (by kernel_rfl) (fun _ _ _ h => h) (Or.inl ⟨by rfl, (by intro w' hSw; obtain ⟨s1, s2, s3, s4, s5, s6⟩ := hSw; go_simp)⟩) (unhide HSY) ?_
      go_simp
      refine wpAnyH_take (i := 31) (oi := _) (v := .int .i64 (i : Int)) rfl (by kernel_rfl) (by kernel_rfl) (by kernel_rfl) (fun _ _ _ h => h) (Or.inl ⟨by rfl, (by intro w' hSw; obtain ⟨s1, s2, s3, s4, s5, s6⟩ := hSw; go_simp)⟩) (unhide HSY) ?_
      go_simp
      refine wpAnyH_take (i := 32) (oi := _) (v := .pointer (some ⟨bb, bo + i * 3, none⟩)) rfl (by kernel_rfl) (by kernel_rfl) (by kernel_rfl) (fun _ _ _ h => h) (Or.inl ⟨by rfl, (by intro w' hSw; obtain ⟨s1, s2, s3, s4, s5, s6⟩ := hSw; go_simp)⟩) (unhide HSY) ?_
      go_simp
      refine wpAnyH_take (i := 33) (oi := _) (v := .pointer (some ⟨bb, bo + i * 3 + 2, none⟩)) rfl (by kernel_rfl) (by kernel_rfl) (by kernel_rfl) (fun _ _ _ h => h) (Or.inl ⟨by rfl, (by intro w' hSw; obtain ⟨s1, s2, s3, s4, s5, s6⟩ := hSw; go_simp)⟩) (unhide HSY) ?_
      go_simp
      refine wpAnyH_take (i := 34) (oi := _) (v := .slice ya SL yc) rfl (by kernel_rfl) (by kernel_rfl) (by kernel_rfl) (fun _ _ _ h => h) (Or.inl ⟨by rfl, (by intro w' hSw; obtain ⟨s1, s2, s3, s4, s5, s6⟩ := hSw; go_simp)⟩) (unhide HSY) ?_
      go_simp
      have HC := hide (unhide HCS Y (unhide HBY))
      refine wpAnyH_ready (rs := [35]) (by kernel_rfl) (by simp) ?_
      refine AllReadyH.cons (o := _) rfl (fun K hK => ?_) AllReadyH.nil
      go_simp
      refine (unhide HC).mono ?_
      rintro e Y2 ⟨rfl, b2⟩
      have HBZ : Hid (Below w.heap.size w Y2) := bl_past (unhide HBY) b2
      clear b2 HC HSY
      have HSY := hide (unhide HSW Y2 (unhide HBZ))
      refine hK.out _ _ (unhide HSY) (fun _ => ?_)
      clear hK K
      go_simp
      refine wpAnyH_take (i := 36) (oi := _) (v := .bool false) rfl (by kernel_rfl) (by kernel_rfl) (by kernel_rfl) (fun _ _ _ h => h) (Or.inl ⟨by rfl, (by intro w' hSw; obtain ⟨s1, s2, s3, s4, s5, s6⟩ := hSw; go_simp)⟩) (unhide HSY) ?_
      go_simp
      refine wpAnyH_take (i := 37) (oi := _) (v := .bool false) rfl (by kernel_rfl) (by kernel_rfl) (by kernel_rfl) (fun _ _ _ h => h) (Or.inl ⟨by rfl, (by intro w' hSw; obtain ⟨s1, s2, s3, s4, s5, s6⟩ := hSw; go_simp)⟩) (unhide HSY) ?_
      go_simp
      refine wpAnyH_done (by kernel_rfl) ?_ _
      clear HSY HSW HCS
      go_wp2_with fail
      go_roundg (gk - 1)
      case measure => have := unhide hi; omega
      case rel => exact ⟨i + 1, by have := unhide hi; unfold Hid; omega, by go_num, HBZ⟩
    · have hiL : i = L := by have := unhide hi; omega
      subst hiL
      clear HA HB
      go_wp2_with fail
      go_ret
      exact ⟨rfl, unhide hB⟩
end Go.Proofs.Ytiamoinhmkhaoaa
