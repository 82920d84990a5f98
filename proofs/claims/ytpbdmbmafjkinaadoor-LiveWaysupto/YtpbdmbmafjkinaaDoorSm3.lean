/-
  Codes that are the same.
-/
import Derived.Test.YtpbdmbmafjkinaaDoorRn
namespace Go.Proofs.YtpbdmbmafjkinaaDoor
open Go.RowKit
set_option linter.unusedVariables false
set_option linter.unusedSimpArgs false
set_option maxRecDepth 100000 in
set_option maxHeartbeats 3200000 in
theorem sameI_yes {w : World} {av bv : Value} {l : List Int} (ha : Rx w 1 av l.length (flt enI l)) (hb : Rx w 1 bv l.length (flt enI l)) (hN : l.length ≤ 8796093021952) :
    Calls Tryd.prog 10 #[av, bv] w fun e w' => e = .returned (.bool true) ∧ Below w.heap.size w w' := by
  have HA := hide (fun i p (hp : l[i]? = some p) => ha.elem zI hp)
  have HB := hide (fun i p (hp : l[i]? = some p) => hb.elem zI hp)
  obtain ⟨_, a, cap, rfl, hac, hcm, _⟩ := ha
  obtain ⟨_, b, bcap, rfl, hbc, hbm, _⟩ := hb
  unfold maxLen at hcm hbm
  obtain ⟨L, hL⟩ : ∃ L, Hid (l.length = L) := ⟨_, hide rfl⟩
  rw [unhide hL] at hN HA HB hac hbc ⊢
  go_enter Tryd.func10, Tryd.ntmps10
  go_wp2_with fail
  go_loopg [5] L (fun gg t5 wr => ∃ (i : Nat), Hid (i + gg = L) ∧ t5 = .int .i64 (i : Int) ∧ Hid (Below w.heap.size w wr))
  case atStart => exact ⟨0, by unfold Hid; omega, rfl, Below.refl _ _⟩
  case round =>
    obtain ⟨i, hi, rfl, hB⟩ := hrel
    by_cases hlt : i < L
    · have hil : i < l.length := by rw [unhide hL]; exact hlt
      obtain ⟨p, hp⟩ : ∃ p, l[i]? = some p := ⟨_, List.getElem?_eq_getElem hil⟩
      obtain ⟨ab, ao, _, e1, _, _, hb1, c⟩ := unhide HA i p hp
      obtain ⟨bb, bo, _, e2, _, _, hb2, d⟩ := unhide HB i p hp
      cases e1
      cases e2
      have k0 : wr.cell? ⟨ab, ao + i, none⟩ = some (.int .i64 p) := ((unhide hB).cell (p := ⟨ab, ao + i, none⟩) hb1).trans (by have := c 0 _ rfl; simpa using this)
      have r0 : wr.cell? ⟨bb, bo + i, none⟩ = some (.int .i64 p) := ((unhide hB).cell (p := ⟨bb, bo + i, none⟩) hb2).trans (by have := d 0 _ rfl; simpa using this)
      have hbr := Nat.lt_of_lt_of_le hb1 (unhide hB).size
      have hgr := Nat.lt_of_lt_of_le hb2 (unhide hB).size
      have i0 : (0 : Int) ≤ (i : Int) := by omega
      have i1 : (i : Int) < (L : Int) := by omega
      clear c d hp
      go_wp2_with fail
      go_quiet (fail)
      have hB3 : Hid (Below w.heap.size w _) := hide ((unhide hB).trans ((Fr.drewN (S := fun _ => False) nq).below (unhide hB).size (fun _ _ e => e)))
      clear hB
      go_wp2_with fail
      go_roundg (gk - 1)
      case measure => have := unhide hi; omega
      case rel => exact ⟨i + 1, by have := unhide hi; unfold Hid; omega, by go_num, hB3⟩
    · have hiL : i = L := by have := unhide hi; omega
      subst hiL
      clear HA HB
      go_wp2_with fail
      go_ret
      exact ⟨rfl, unhide hB⟩
set_option maxRecDepth 100000 in
set_option maxHeartbeats 3200000 in
theorem sameO_yes {w : World} {av bv : Value} {l : List Op} (ha : Rx w 2 av l.length (flt enO l)) (hb : Rx w 2 bv l.length (flt enO l)) (hN : l.length ≤ 8796093021952) :
    Calls Tryd.prog 56 #[av, bv] w fun e w' => e = .returned (.bool true) ∧ Below w.heap.size w w' := by
  have HA := hide (fun i p (hp : l[i]? = some p) => ha.elem zO hp)
  have HB := hide (fun i p (hp : l[i]? = some p) => hb.elem zO hp)
  obtain ⟨_, a, cap, rfl, hac, hcm, _⟩ := ha
  obtain ⟨_, b, bcap, rfl, hbc, hbm, _⟩ := hb
  unfold maxLen at hcm hbm
  obtain ⟨L, hL⟩ : ∃ L, Hid (l.length = L) := ⟨_, hide rfl⟩
  rw [unhide hL] at hN HA HB hac hbc ⊢
  go_enter Tryd.func56, Tryd.ntmps56
  go_wp2_with fail
  go_loopg [5] L (fun gg t5 wr => ∃ (i : Nat), Hid (i + gg = L) ∧ t5 = .int .i64 (i : Int) ∧ Hid (Below w.heap.size w wr))
  case atStart => exact ⟨0, by unfold Hid; omega, rfl, Below.refl _ _⟩
  case round =>
    obtain ⟨i, hi, rfl, hB⟩ := hrel
    by_cases hlt : i < L
    · have hil : i < l.length := by rw [unhide hL]; exact hlt
      obtain ⟨p, hp⟩ : ∃ p, l[i]? = some p := ⟨_, List.getElem?_eq_getElem hil⟩
      obtain ⟨ab, ao, _, e1, _, _, hb1, c⟩ := unhide HA i p hp
      obtain ⟨bb, bo, _, e2, _, _, hb2, d⟩ := unhide HB i p hp
      cases e1
      cases e2
      have k0 : wr.cell? ⟨ab, ao + i * 2, none⟩ = some (.int .i64 p.k) := ((unhide hB).cell (p := ⟨ab, ao + i * 2, none⟩) hb1).trans (by have := c 0 _ rfl; simpa using this)
      have k1 : wr.cell? ⟨ab, ao + i * 2 + 1, none⟩ = some (.int .i64 p.n) := ((unhide hB).cell (p := ⟨ab, ao + i * 2 + 1, none⟩) hb1).trans (by have := c 1 _ rfl; simpa using this)
      have r0 : wr.cell? ⟨bb, bo + i * 2, none⟩ = some (.int .i64 p.k) := ((unhide hB).cell (p := ⟨bb, bo + i * 2, none⟩) hb2).trans (by have := d 0 _ rfl; simpa using this)
      have r1 : wr.cell? ⟨bb, bo + i * 2 + 1, none⟩ = some (.int .i64 p.n) := ((unhide hB).cell (p := ⟨bb, bo + i * 2 + 1, none⟩) hb2).trans (by have := d 1 _ rfl; simpa using this)
      have hbr := Nat.lt_of_lt_of_le hb1 (unhide hB).size
      have hgr := Nat.lt_of_lt_of_le hb2 (unhide hB).size
      have i0 : (0 : Int) ≤ (i : Int) := by omega
      have i1 : (i : Int) < (L : Int) := by omega
      clear c d hp
      go_wp2_with fail
      go_quiet (fail)
      have hB3 : Hid (Below w.heap.size w _) := hide ((unhide hB).trans ((Fr.drewN (S := fun _ => False) nq).below (unhide hB).size (fun _ _ e => e)))
      clear hB
      go_wp2_with fail
      go_roundg (gk - 1)
      case measure => have := unhide hi; omega
      case rel => exact ⟨i + 1, by have := unhide hi; unfold Hid; omega, by go_num, hB3⟩
    · have hiL : i = L := by have := unhide hi; omega
      subst hiL
      clear HA HB
      go_wp2_with fail
      go_ret
      exact ⟨rfl, unhide hB⟩
set_option maxRecDepth 100000 in
set_option maxHeartbeats 6400000 in
theorem sameS_yes {w : World} {D D' : Nat → Prop} {av bv : Value} {l : List Sh} (ha : ShsV D w l av) (hb : ShsV D' w l bv) (hN : l.length ≤ 8796093021952) (hM : ∀ s ∈ l, s.sl.length ≤ 8796093021952) :
    Calls Tryd.prog 57 #[av, bv] w fun e w' => e = .returned (.bool true) ∧ Below w.heap.size w w' := by
  obtain ⟨a, cap, rfl, hac, hcm⟩ := NV.shape ha
  obtain ⟨b, bcap, rfl, hbc, hbm⟩ := NV.shape hb
  have HA := hide ha
  have HB := hide hb
  have HM := hide hM
  unfold maxLen at hcm hbm
  obtain ⟨L, hL⟩ : ∃ L, Hid (l.length = L) := ⟨_, hide rfl⟩
  rw [unhide hL] at hN HA HB hac hbc ⊢
  clear ha hb hM
  go_enter Tryd.func57, Tryd.ntmps57
  go_wp2_with fail
  go_loopg [5] L (fun gg t5 wr => ∃ (i : Nat), Hid (i + gg = L) ∧ t5 = .int .i64 (i : Int) ∧ Hid (Below w.heap.size w wr))
  case atStart => exact ⟨0, by unfold Hid; omega, rfl, Below.refl _ _⟩
  case round =>
    obtain ⟨i, hi, rfl, hB⟩ := hrel
    by_cases hlt : i < L
    · have hil : i < l.length := by rw [unhide hL]; exact hlt
      obtain ⟨s, hp⟩ : ∃ p, l[i]? = some p := ⟨_, List.getElem?_eq_getElem hil⟩
      obtain ⟨ab, ao, _, r, e1, hb1, _, ⟨f1, f2, f3⟩, c⟩ := NV.at zSh (show NV enSh 3 ShP D w l (.slice a L cap) from unhide HA) hp
      obtain ⟨bb, bo, _, q, e2, hb2, _, ⟨g1, g2, g3⟩, d⟩ := NV.at zSh (show NV enSh 3 ShP D' w l (.slice b L bcap) from unhide HB) hp
      rw [unhide hL] at e1 e2
      cases e1
      cases e2
      obtain ⟨rfn, rpc, rv⟩ := r
      obtain ⟨qfn, qpc, qv⟩ := q
      simp only at f1 f2 f3 g1 g2 g3
      subst f1 f2 g1 g2
      obtain ⟨xa, xc, ex, hx1, hx2⟩ := f3.1.shape
      obtain ⟨ya, yc, ey, hy1, hy2⟩ := g3.1.shape
      subst ex ey
      obtain ⟨SL, hSL⟩ : ∃ z, Hid (s.sl.length = z) := ⟨_, hide rfl⟩
      have HCS : Hid (∀ W, Below w.heap.size w W → Calls Tryd.prog 56 #[.slice xa SL xc, .slice ya SL yc] W fun e w' => e = .returned (.bool true) ∧ Below W.heap.size W w') := fun W hW => by
        rw [← unhide hSL]
        exact sameO_yes (f3.1.below hW (Nat.le_refl _)) (g3.1.below hW (Nat.le_refl _)) (unhide HM s (List.mem_of_getElem? hp))
      rw [unhide hSL] at c d
      have HSW : Hid (∀ W, Below w.heap.size w W → (fun W => W.cell? ⟨ab, ao + i * 3, none⟩ = some (.int .i64 s.fn) ∧ W.cell? ⟨ab, ao + i * 3 + 1, none⟩ = some (.int .i64 s.pc) ∧ W.cell? ⟨ab, ao + i * 3 + 2, none⟩ = some (.slice xa SL xc) ∧ W.cell? ⟨bb, bo + i * 3, none⟩ = some (.int .i64 s.fn) ∧ W.cell? ⟨bb, bo + i * 3 + 1, none⟩ = some (.int .i64 s.pc) ∧ W.cell? ⟨bb, bo + i * 3 + 2, none⟩ = some (.slice ya SL yc)) W) := fun W hW => by
        have k0 := (hW.cell (p := ⟨ab, ao + i * 3 + 0, none⟩) hb1).trans (c 0 _ rfl)
        have r0 := (hW.cell (p := ⟨bb, bo + i * 3 + 0, none⟩) hb2).trans (d 0 _ rfl)
        exact ⟨k0, (hW.cell (p := ⟨ab, ao + i * 3 + 1, none⟩) hb1).trans (c 1 _ rfl), (hW.cell (p := ⟨ab, ao + i * 3 + 2, none⟩) hb1).trans (c 2 _ rfl), r0, (hW.cell (p := ⟨bb, bo + i * 3 + 1, none⟩) hb2).trans (d 1 _ rfl), (hW.cell (p := ⟨bb, bo + i * 3 + 2, none⟩) hb2).trans (d 2 _ rfl)⟩
      have i0 : (0 : Int) ≤ (i : Int) := by omega
      have i1 : (i : Int) < (L : Int) := by omega
      clear c d hp f3 g3
      go_wp2_with fail
      obtain ⟨Y, hY⟩ : ∃ W, Hid (wr.drew = W) := ⟨_, hide rfl⟩
      have HBY : Hid (Below w.heap.size w Y) := by rw [← unhide hY]; exact (unhide hB).trans ⟨rfl, rfl, rfl, Nat.le_refl _, fun _ _ => rfl⟩
      have HSY := hide (unhide HSW Y (unhide HBY))
      refine wp_region_held_drew (S := (fun W => W.cell? ⟨ab, ao + i * 3, none⟩ = some (.int .i64 s.fn) ∧ W.cell? ⟨ab, ao + i * 3 + 1, none⟩ = some (.int .i64 s.pc) ∧ W.cell? ⟨ab, ao + i * 3 + 2, none⟩ = some (.slice xa SL xc) ∧ W.cell? ⟨bb, bo + i * 3, none⟩ = some (.int .i64 s.fn) ∧ W.cell? ⟨bb, bo + i * 3 + 1, none⟩ = some (.int .i64 s.pc) ∧ W.cell? ⟨bb, bo + i * 3 + 2, none⟩ = some (.slice ya SL yc))) (by kernel_rfl) (by rw [unhide hY]; exact unhide HSY) (fun hHeld => ?_)
      clear hHeld
      rw [unhide hY]
      clear hY
      refine wpAnyH_take (i := 0) (oi := _) (v := .slice (some ⟨ab, ao, none⟩) L cap) rfl (by kernel_rfl) (by kernel_rfl) (by kernel_rfl) (fun _ _ _ h => h) (Or.inl ⟨by rfl, (by intro w' hSw; obtain ⟨s1, s2, s3, s4, s5, s6⟩ := hSw; go_simp)⟩) (unhide HSY) ?_
      go_simp
      refine wpAnyH_take (i := 1) (oi := _) (v := .int .i64 (i : Int)) rfl (by kernel_rfl) (by kernel_rfl) (by kernel_rfl) (fun _ _ _ h => h) (Or.inl ⟨by rfl, (by intro w' hSw; obtain ⟨s1, s2, s3, s4, s5, s6⟩ := hSw; go_simp)⟩) (unhide HSY) ?_
      go_simp
      refine wpAnyH_take (i := 2) (oi := _) (v := .pointer (some ⟨ab, ao + i * 3, none⟩)) rfl (by kernel_rfl) (by kernel_rfl) (by kernel_rfl) (fun _ _ _ h => h) (Or.inl ⟨by rfl, (by intro w' hSw; obtain ⟨s1, s2, s3, s4, s5, s6⟩ := hSw; go_simp)⟩) (unhide HSY) ?_
      go_simp
      refine wpAnyH_take (i := 3) (oi := _) (v := .pointer (some ⟨ab, ao + i * 3, none⟩)) rfl (by kernel_rfl) (by kernel_rfl) (by kernel_rfl) (fun _ _ _ h => h) (Or.inl ⟨by rfl, (by intro w' hSw; obtain ⟨s1, s2, s3, s4, s5, s6⟩ := hSw; go_simp)⟩) (unhide HSY) ?_
      go_simp
      refine wpAnyH_take (i := 4) (oi := _) (v := .int .i64 s.fn) rfl (by kernel_rfl) (by kernel_rfl) (by kernel_rfl) (fun _ _ _ h => h) (Or.inl ⟨by rfl, (by intro w' hSw; obtain ⟨s1, s2, s3, s4, s5, s6⟩ := hSw; go_simp)⟩) (unhide HSY) ?_
      go_simp
      refine wpAnyH_take (i := 5) (oi := _) (v := .slice (some ⟨bb, bo, none⟩) L bcap) rfl (by kernel_rfl) (by kernel_rfl) (by kernel_rfl) (fun _ _ _ h => h) (Or.inl ⟨by rfl, (by intro w' hSw; obtain ⟨s1, s2, s3, s4, s5, s6⟩ := hSw; go_simp)⟩) (unhide HSY) ?_
      go_simp
      refine wpAnyH_take (i := 6) (oi := _) (v := .int .i64 (i : Int)) rfl (by kernel_rfl) (by kernel_rfl) (by kernel_rfl) (fun _ _ _ h => h) (Or.inl ⟨by rfl, (by intro w' hSw; obtain ⟨s1, s2, s3, s4, s5, s6⟩ := hSw; go_simp)⟩) (unhide HSY) ?_
      go_simp
      refine wpAnyH_take (i := 7) (oi := _) (v := .pointer (some ⟨bb, bo + i * 3, none⟩)) rfl (by kernel_rfl) (by kernel_rfl) (by kernel_rfl) (fun _ _ _ h => h) (Or.inl ⟨by rfl, (by intro w' hSw; obtain ⟨s1, s2, s3, s4, s5, s6⟩ := hSw; go_simp)⟩) (unhide HSY) ?_
      go_simp
      refine wpAnyH_take (i := 8) (oi := _) (v := .pointer (some ⟨bb, bo + i * 3, none⟩)) rfl (by kernel_rfl) (by kernel_rfl) (by kernel_rfl) (fun _ _ _ h => h) (Or.inl ⟨by rfl, (by intro w' hSw; obtain ⟨s1, s2, s3, s4, s5, s6⟩ := hSw; go_simp)⟩) (unhide HSY) ?_
      go_simp
      refine wpAnyH_take (i := 9) (oi := _) (v := .int .i64 s.fn) rfl (by kernel_rfl) (by kernel_rfl) (by kernel_rfl) (fun _ _ _ h => h) (Or.inl ⟨by rfl, (by intro w' hSw; obtain ⟨s1, s2, s3, s4, s5, s6⟩ := hSw; go_simp)⟩) (unhide HSY) ?_
      go_simp
      refine wpAnyH_take (i := 10) (oi := _) (v := .bool false) rfl (by kernel_rfl) (by kernel_rfl) (by kernel_rfl) (fun _ _ _ h => h) (Or.inl ⟨by rfl, (by intro w' hSw; obtain ⟨s1, s2, s3, s4, s5, s6⟩ := hSw; go_simp)⟩) (unhide HSY) ?_
      go_simp
      refine wpAnyH_take (i := 11) (oi := _) (v := .bool false) rfl (by kernel_rfl) (by kernel_rfl) (by kernel_rfl) (fun _ _ _ h => h) (Or.inl ⟨by rfl, (by intro w' hSw; obtain ⟨s1, s2, s3, s4, s5, s6⟩ := hSw; go_simp)⟩) (unhide HSY) ?_
      go_simp
      refine wpAnyH_take (i := 12) (oi := _) (v := .slice (some ⟨ab, ao, none⟩) L cap) rfl (by kernel_rfl) (by kernel_rfl) (by kernel_rfl) (fun _ _ _ h => h) (Or.inl ⟨by rfl, (by intro w' hSw; obtain ⟨s1, s2, s3, s4, s5, s6⟩ := hSw; go_simp)⟩) (unhide HSY) ?_
      go_simp
      refine wpAnyH_take (i := 13) (oi := _) (v := .int .i64 (i : Int)) rfl (by kernel_rfl) (by kernel_rfl) (by kernel_rfl) (fun _ _ _ h => h) (Or.inl ⟨by rfl, (by intro w' hSw; obtain ⟨s1, s2, s3, s4, s5, s6⟩ := hSw; go_simp)⟩) (unhide HSY) ?_
      go_simp
      refine wpAnyH_take (i := 14) (oi := _) (v := .pointer (some ⟨ab, ao + i * 3, none⟩)) rfl (by kernel_rfl) (by kernel_rfl) (by kernel_rfl) (fun _ _ _ h => h) (Or.inl ⟨by rfl, (by intro w' hSw; obtain ⟨s1, s2, s3, s4, s5, s6⟩ := hSw; go_simp)⟩) (unhide HSY) ?_
      go_simp
      refine wpAnyH_take (i := 15) (oi := _) (v := .pointer (some ⟨ab, ao + i * 3 + 1, none⟩)) rfl (by kernel_rfl) (by kernel_rfl) (by kernel_rfl) (fun _ _ _ h => h) (Or.inl ⟨by rfl, (by intro w' hSw; obtain ⟨s1, s2, s3, s4, s5, s6⟩ := hSw; go_simp)⟩) (unhide HSY) ?_
      go_simp
      refine wpAnyH_take (i := 16) (oi := _) (v := .int .i64 s.pc) rfl (by kernel_rfl) (by kernel_rfl) (by kernel_rfl) (fun _ _ _ h => h) (Or.inl ⟨by rfl, (by intro w' hSw; obtain ⟨s1, s2, s3, s4, s5, s6⟩ := hSw; go_simp)⟩) (unhide HSY) ?_
      go_simp
      refine wpAnyH_take (i := 17) (oi := _) (v := .slice (some ⟨bb, bo, none⟩) L bcap) rfl (by kernel_rfl) (by kernel_rfl) (by kernel_rfl) (fun _ _ _ h => h) (Or.inl ⟨by rfl, (by intro w' hSw; obtain ⟨s1, s2, s3, s4, s5, s6⟩ := hSw; go_simp)⟩) (unhide HSY) ?_
      go_simp
      refine wpAnyH_take (i := 18) (oi := _) (v := .int .i64 (i : Int)) rfl (by kernel_rfl) (by kernel_rfl) (by kernel_rfl) (fun _ _ _ h => h) (Or.inl ⟨by rfl, (by intro w' hSw; obtain ⟨s1, s2, s3, s4, s5, s6⟩ := hSw; go_simp)⟩) (unhide HSY) ?_
      go_simp
      refine wpAnyH_take (i := 19) (oi := _) (v := .pointer (some ⟨bb, bo + i * 3, none⟩)) rfl (by kernel_rfl) (by kernel_rfl) (by kernel_rfl) (fun _ _ _ h => h) (Or.inl ⟨by rfl, (by intro w' hSw; obtain ⟨s1, s2, s3, s4, s5, s6⟩ := hSw; go_simp)⟩) (unhide HSY) ?_
      go_simp
      refine wpAnyH_take (i := 20) (oi := _) (v := .pointer (some ⟨bb, bo + i * 3 + 1, none⟩)) rfl (by kernel_rfl) (by kernel_rfl) (by kernel_rfl) (fun _ _ _ h => h) (Or.inl ⟨by rfl, (by intro w' hSw; obtain ⟨s1, s2, s3, s4, s5, s6⟩ := hSw; go_simp)⟩) (unhide HSY) ?_
      go_simp
      refine wpAnyH_take (i := 21) (oi := _) (v := .int .i64 s.pc) rfl (by kernel_rfl) (by kernel_rfl) (by kernel_rfl) (fun _ _ _ h => h) (Or.inl ⟨by rfl, (by intro w' hSw; obtain ⟨s1, s2, s3, s4, s5, s6⟩ := hSw; go_simp)⟩) (unhide HSY) ?_
      go_simp
      refine wpAnyH_take (i := 22) (oi := _) (v := .bool false) rfl (by kernel_rfl) (by kernel_rfl) (by kernel_rfl) (fun _ _ _ h => h) (Or.inl ⟨by rfl, (by intro w' hSw; obtain ⟨s1, s2, s3, s4, s5, s6⟩ := hSw; go_simp)⟩) (unhide HSY) ?_
      go_simp
      refine wpAnyH_take (i := 23) (oi := _) (v := .bool false) rfl (by kernel_rfl) (by kernel_rfl) (by kernel_rfl) (fun _ _ _ h => h) (Or.inl ⟨by rfl, (by intro w' hSw; obtain ⟨s1, s2, s3, s4, s5, s6⟩ := hSw; go_simp)⟩) (unhide HSY) ?_
      go_simp
      refine wpAnyH_take (i := 24) (oi := _) (v := .bool false) rfl (by kernel_rfl) (by kernel_rfl) (by kernel_rfl) (fun _ _ _ h => h) (Or.inl ⟨by rfl, (by intro w' hSw; obtain ⟨s1, s2, s3, s4, s5, s6⟩ := hSw; go_simp)⟩) (unhide HSY) ?_
      go_simp
      refine wpAnyH_take (i := 25) (oi := _) (v := .slice (some ⟨ab, ao, none⟩) L cap) rfl (by kernel_rfl) (by kernel_rfl) (by kernel_rfl) (fun _ _ _ h => h) (Or.inl ⟨by rfl, (by intro w' hSw; obtain ⟨s1, s2, s3, s4, s5, s6⟩ := hSw; go_simp)⟩) (unhide HSY) ?_
      go_simp
      refine wpAnyH_take (i := 26) (oi := _) (v := .int .i64 (i : Int)) rfl (by kernel_rfl) (by kernel_rfl) (by kernel_rfl) (fun _ _ _ h => h) (Or.inl ⟨by rfl, (by intro w' hSw; obtain ⟨s1, s2, s3, s4, s5, s6⟩ := hSw; go_simp)⟩) (unhide HSY) ?_
      go_simp
      refine wpAnyH_take (i := 27) (oi := _) (v := .pointer (some ⟨ab, ao + i * 3, none⟩)) rfl (by kernel_rfl) (by kernel_rfl) (by kernel_rfl) (fun _ _ _ h => h) (Or.inl ⟨by rfl, (by intro w' hSw; obtain ⟨s1, s2, s3, s4, s5, s6⟩ := hSw; go_simp)⟩) (unhide HSY) ?_
      go_simp
      refine wpAnyH_take (i := 28) (oi := _) (v := .pointer (some ⟨ab, ao + i * 3 + 2, none⟩)) rfl (by kernel_rfl) (by kernel_rfl) (by kernel_rfl) (fun _ _ _ h => h) (Or.inl ⟨by rfl, (by intro w' hSw; obtain ⟨s1, s2, s3, s4, s5, s6⟩ := hSw; go_simp)⟩) (unhide HSY) ?_
      go_simp
      refine wpAnyH_take (i := 29) (oi := _) (v := .slice xa SL xc) rfl (by kernel_rfl) (by kernel_rfl) (by kernel_rfl) (fun _ _ _ h => h) (Or.inl ⟨by rfl, (by intro w' hSw; obtain ⟨s1, s2, s3, s4, s5, s6⟩ := hSw; go_simp)⟩) (unhide HSY) ?_
      go_simp
      refine wpAnyH_take (i := 30) (oi := _) (v := .slice (some ⟨bb, bo, none⟩) L bcap) rfl (by kernel_rfl) (by kernel_rfl) (by kernel_rfl) (fun _ _ _ h => h) (Or.inl ⟨by rfl, (by intro w' hSw; obtain ⟨s1, s2, s3, s4, s5, s6⟩ := hSw; go_simp)⟩) (unhide HSY) ?_
      go_simp
      refine wpAnyH_take (i := 31) (oi := _) (v := .int .i64 (i : Int)) rfl (by kernel_rfl) (by kernel_rfl) (by kernel_rfl) (fun _ _ _ h => h) (Or.inl ⟨by rfl, (by intro w' hSw; obtain ⟨s1, s2, s3, s4, s5, s6⟩ := hSw; go_simp)⟩) (unhide HSY) ?_
      go_simp
      refine wpAnyH_take (i := 32) (oi := _) (v := .pointer (some ⟨bb, bo + i * 3, none⟩)) rfl (by kernel_rfl) (by kernel_rfl) (by kernel_rfl) (fun _ _ _ h => h) (Or.inl ⟨by rfl, (by intro w' hSw; obtain ⟨s1, s2, s3, s4, s5, s6⟩ := hSw; go_simp)⟩) (unhide HSY) ?_
      go_simp
      refine wpAnyH_take (i := 33) (oi := _) (v := .pointer (some ⟨bb, bo + i * 3 + 2, none⟩)) rfl (by kernel_rfl) (by kernel_rfl) (by kernel_rfl) (fun _ _ _ h => h) (Or.inl ⟨by rfl, (by intro w' hSw; obtain ⟨s1, s2, s3, s4, s5, s6⟩ := hSw; go_simp)⟩) (unhide HSY) ?_
      go_simp
      refine wpAnyH_take (i := 34) (oi := _) (v := .slice ya SL yc) rfl (by kernel_rfl) (by kernel_rfl) (by kernel_rfl) (fun _ _ _ h => h) (Or.inl ⟨by rfl, (by intro w' hSw; obtain ⟨s1, s2, s3, s4, s5, s6⟩ := hSw; go_simp)⟩) (unhide HSY) ?_
      go_simp
      have HC := hide (unhide HCS Y (unhide HBY))
      refine wpAnyH_ready (rs := [35]) (by kernel_rfl) (by simp) ?_
      refine AllReadyH.cons (o := _) rfl (fun K hK => ?_) AllReadyH.nil
      go_simp
      refine (unhide HC).mono ?_
      rintro e Y2 ⟨rfl, b2⟩
      have HBZ : Hid (Below w.heap.size w Y2) := bl_past (unhide HBY) b2
      clear b2 HC HSY
      have HSY := hide (unhide HSW Y2 (unhide HBZ))
      refine hK.out _ _ (unhide HSY) (fun _ => ?_)
      clear hK K
      go_simp
      refine wpAnyH_take (i := 36) (oi := _) (v := .bool false) rfl (by kernel_rfl) (by kernel_rfl) (by kernel_rfl) (fun _ _ _ h => h) (Or.inl ⟨by rfl, (by intro w' hSw; obtain ⟨s1, s2, s3, s4, s5, s6⟩ := hSw; go_simp)⟩) (unhide HSY) ?_
      go_simp
      refine wpAnyH_take (i := 37) (oi := _) (v := .bool false) rfl (by kernel_rfl) (by kernel_rfl) (by kernel_rfl) (fun _ _ _ h => h) (Or.inl ⟨by rfl, (by intro w' hSw; obtain ⟨s1, s2, s3, s4, s5, s6⟩ := hSw; go_simp)⟩) (unhide HSY) ?_
      go_simp
      refine wpAnyH_done (by kernel_rfl) ?_ _
      clear HSY HSW HCS
      go_wp2_with fail
      go_roundg (gk - 1)
      case measure => have := unhide hi; omega
      case rel => exact ⟨i + 1, by have := unhide hi; unfold Hid; omega, by go_num, HBZ⟩
    · have hiL : i = L := by have := unhide hi; omega
      subst hiL
      clear HA HB
      go_wp2_with fail
      go_ret
      exact ⟨rfl, unhide hB⟩

set_option linter.unusedVariables false
set_option linter.unusedSimpArgs false
def OkX (x : RIn) : Prop := x.args.length ≤ 1048576 ∧ x.ex.length ≤ 1048576 ∧ ∀ s ∈ x.ex, s.sl.length ≤ 1048576
set_option maxRecDepth 100000 in
set_option maxHeartbeats 6400000 in
theorem sameX_yes {w : World} {D D' : Nat → Prop} {x : RIn} {r q : InR} (ha : InP D w x r) (hb : InP D' w x q) (hM : OkX x) :
    Calls Tryd.prog 34 #[inV r, inV q] w fun e w' => e = .returned (.bool true) ∧ Below w.heap.size w w' := by
  obtain ⟨rop, rcode, rdst, av, rn, rpc, rneed, ev⟩ := r
  obtain ⟨qop, qcode, qdst, bv, qn, qpc, qneed, fv⟩ := q
  obtain ⟨h1, h2, h3, h4, h5, h6, h7, h8⟩ := ha
  obtain ⟨k1, k2, k3, k4, k5, k6, k7, k8⟩ := hb
  simp only at h1 h2 h3 h4 h5 h6 h7 h8 k1 k2 k3 k4 k5 k6 k7 k8
  obtain ⟨aa, ac, ea1, ha1, ha2⟩ := h7.1.shape
  obtain ⟨ea, ec, ee1, he1, he2⟩ := NV.shape h8
  obtain ⟨ba, bc, ea2, hb1, hb2⟩ := k7.1.shape
  obtain ⟨fa, fc, ee2, hf1, hf2⟩ := NV.shape k8
  subst ea1 ee1 ea2 ee2 h1 h2 h3 h4 h5 h6 k1 k2 k3 k4 k5 k6
  obtain ⟨AL, hAL⟩ : ∃ z, Hid (x.args.length = z) := ⟨_, hide rfl⟩
  obtain ⟨EL, hEL⟩ : ∃ z, Hid (x.ex.length = z) := ⟨_, hide rfl⟩
  have HO : Hid (∀ W, Below w.heap.size w W → Calls Tryd.prog 56 #[.slice aa AL ac, .slice ba AL bc] W fun e w' => e = .returned (.bool true) ∧ Below W.heap.size W w') := fun W hW => by
    rw [← unhide hAL]
    exact sameO_yes (h7.1.below hW (Nat.le_refl _)) (k7.1.below hW (Nat.le_refl _)) (by have := hM.1; omega)
  have HE : Hid (∀ W, Below w.heap.size w W → Calls Tryd.prog 57 #[.slice ea EL ec, .slice fa EL fc] W fun e w' => e = .returned (.bool true) ∧ Below W.heap.size W w') := fun W hW => by
    rw [← unhide hEL]
    exact sameS_yes (ShsV.mv.bel h8 hW) (ShsV.mv.bel k8 hW) (by have := hM.2.1; omega) (fun s hs => by have := hM.2.2 s hs; omega)
  unfold inV
  dsimp only
  rw [unhide hAL] at ha1 hb1 ⊢
  rw [unhide hEL] at he1 hf1 ⊢
  unfold maxLen at ha2 hb2 he2 hf2
  have H0 := hide (BX.two w #[.int .i64 x.op, .int .i64 x.code, .int .i64 x.dst, .slice aa AL ac, .int .i64 x.n, .int .i64 x.pc, .int .i64 x.need, .slice ea EL ec] #[.int .i64 x.op, .int .i64 x.code, .int .i64 x.dst, .slice ba AL bc, .int .i64 x.n, .int .i64 x.pc, .int .i64 x.need, .slice fa EL fc] 51 51)
  clear h7 h8 k7 k8 hM
  go_enter Tryd.func34, Tryd.ntmps34
  go_wp2_with fail
  refine (unhide HO _ (unhide H0).b).mono ?_
  rintro e w3 ⟨rfl, b3⟩
  have H3 := hide ((unhide H0).go b3)
  clear b3 H0
  have c7 := (unhide H3).ce 0 rfl 7
  have d7 := (unhide H3).ce 1 rfl 7
  have l0 := (unhide H3).lt (i := 0) rfl
  have l1 := (unhide H3).lt (i := 1) rfl
  simp at c7 d7 l0 l1
  go_wp2_with fail
  refine (unhide HE _ (unhide H3).b).mono ?_
  rintro e w4 ⟨rfl, b4⟩
  have H4 := hide ((unhide H3).go b4)
  clear c7 d7 l0 l1 b4
  go_wp2_with fail
  go_ret
  exact ⟨rfl, (unhide H4).b⟩

set_option linter.unusedVariables false
set_option linter.unusedSimpArgs false
def OkS (b : Bk) : Prop := b.ins.length ≤ 1048576 ∧ b.nx.length ≤ 1048576 ∧ ∀ x ∈ b.ins, OkX x
set_option maxRecDepth 100000 in
set_option maxHeartbeats 12800000 in
theorem sameR_yes {w : World} {D D' : Nat → Prop} {fn regs : Int} {av bv : Value} {bl : List Bk} (ha : BksV D w bl av) (hb : BksV D' w bl bv) (hN : bl.length ≤ 1048576) (hM : ∀ b ∈ bl, OkS b) :
    Calls Tryd.prog 19 #[.agg #[.int .i64 fn, .int .i64 regs, av], .agg #[.int .i64 fn, .int .i64 regs, bv]] w fun e w' => e = .returned (.bool true) ∧ Below w.heap.size w w' := by
  obtain ⟨a, cap, rfl, hac, hcm⟩ := NV.shape ha
  obtain ⟨b, bcap, rfl, hbc, hbm⟩ := NV.shape hb
  have HA := hide ha
  have HB := hide hb
  have HM := hide hM
  unfold maxLen at hcm hbm
  obtain ⟨L, hL⟩ : ∃ L, Hid (bl.length = L) := ⟨_, hide rfl⟩
  rw [unhide hL] at hN HA HB hac hbc ⊢
  clear ha hb hM
  have H0 := hide (BX.two w #[.int .i64 fn, .int .i64 regs, .slice a L cap] #[.int .i64 fn, .int .i64 regs, .slice b L bcap] 24 24)
  go_enter Tryd.func19, Tryd.ntmps19
  go_wp2_with fail
  go_loopg [5] L (fun gg t5 wr => ∃ (i : Nat), Hid (i + gg = L) ∧ t5 = .int .i64 (i : Int) ∧ Hid (BX w [(w.heap.size, #[.int .i64 fn, .int .i64 regs, .slice a L cap], 24), (w.heap.size + 1, #[.int .i64 fn, .int .i64 regs, .slice b L bcap], 24)] wr))
  case atStart => exact ⟨0, by unfold Hid; omega, rfl, H0⟩
  case round =>
    clear H0
    obtain ⟨i, hi, rfl, hB⟩ := hrel
    have k2 := (unhide hB).ce 0 rfl 2
    have kl := (unhide hB).lt (i := 0) rfl
    have r2 := (unhide hB).ce 1 rfl 2
    have rl := (unhide hB).lt (i := 1) rfl
    simp at k2 kl r2 rl
    by_cases hlt : i < L
    case neg =>
      have hiL : i = L := by have := unhide hi; omega
      subst hiL
      clear HA HB
      have i1 : ¬ (i : Int) < (i : Int) := by omega
      go_wp2_with fail
      go_ret
      exact ⟨rfl, (unhide hB).b⟩
    have hil : i < bl.length := by rw [unhide hL]; exact hlt
    obtain ⟨u, hu⟩ : ∃ p, bl[i]? = some p := ⟨_, List.getElem?_eq_getElem hil⟩
    obtain ⟨ab, ao, _, r, e1, hb1, _, ⟨f1, f2, f3⟩, c⟩ := NV.at zBk (show NV enBk 3 BkP D w bl (.slice a L cap) from unhide HA) hu
    obtain ⟨bb, bo, _, q, e2, hb2, _, ⟨g1, g2, g3⟩, d⟩ := NV.at zBk (show NV enBk 3 BkP D' w bl (.slice b L bcap) from unhide HB) hu
    rw [unhide hL] at e1 e2
    cases e1
    cases e2
    obtain ⟨rpc, riv, rnv⟩ := r
    obtain ⟨qpc, qiv, qnv⟩ := q
    simp only at f1 f2 f3 g1 g2 g3
    subst f1
    subst g1
    obtain ⟨ia, ic, ex1, hx1, hx2⟩ := NV.shape f2
    obtain ⟨ja, jc, ex2, hy1, hy2⟩ := NV.shape g2
    obtain ⟨na, nc, ex3, hz1, hz2⟩ := f3.1.shape
    obtain ⟨ma, mc, ex4, ht1, ht2⟩ := g3.1.shape
    subst ex1 ex2 ex3 ex4
    have HOU := hide (unhide HM u (List.mem_of_getElem? hu))
    obtain ⟨IL, hIL⟩ : ∃ z, Hid (u.ins.length = z) := ⟨_, hide rfl⟩
    obtain ⟨NL, hNL⟩ : ∃ z, Hid (u.nx.length = z) := ⟨_, hide rfl⟩
    have HNX : Hid (∀ W, Below w.heap.size w W → Calls Tryd.prog 10 #[.slice na NL nc, .slice ma NL mc] W fun e w' => e = .returned (.bool true) ∧ Below W.heap.size W w') := fun W hW => by
      rw [← unhide hNL]
      exact sameI_yes (f3.1.below hW (Nat.le_refl _)) (g3.1.below hW (Nat.le_refl _)) (by have := (unhide HOU).2.1; omega)
    have HIA := hide f2
    have HIB := hide g2
    have hIN : IL ≤ 1048576 := by have := (unhide HOU).1; have := unhide hIL; omega
    rw [unhide hIL] at HIA HIB hx1 hy1
    rw [unhide hNL] at hz1 ht1
    unfold maxLen at hx2 hy2 hz2 ht2
    have A0 := ((unhide hB).b.cell (p := ⟨ab, ao + i * 3 + 0, none⟩) hb1).trans (c 0 _ rfl)
    have A1 := ((unhide hB).b.cell (p := ⟨ab, ao + i * 3 + 1, none⟩) hb1).trans (c 1 _ rfl)
    have A2 := ((unhide hB).b.cell (p := ⟨ab, ao + i * 3 + 2, none⟩) hb1).trans (c 2 _ rfl)
    have B0 := ((unhide hB).b.cell (p := ⟨bb, bo + i * 3 + 0, none⟩) hb2).trans (d 0 _ rfl)
    have B1 := ((unhide hB).b.cell (p := ⟨bb, bo + i * 3 + 1, none⟩) hb2).trans (d 1 _ rfl)
    have B2 := ((unhide hB).b.cell (p := ⟨bb, bo + i * 3 + 2, none⟩) hb2).trans (d 2 _ rfl)
    simp only [Nat.add_zero] at A0 B0
    rw [unhide hIL] at A1 B1
    rw [unhide hNL] at A2 B2
    have hab := Nat.lt_of_lt_of_le hb1 (unhide hB).b.size
    have hbb := Nat.lt_of_lt_of_le hb2 (unhide hB).b.size
    have hbb2 : bb < wr.heap.size + 1 := by omega
    have rl2 : w.heap.size + 1 < wr.heap.size + 1 := by omega
    have i0 : (0 : Int) ≤ (i : Int) := by omega
    have i1 : (i : Int) < (L : Int) := by omega
    obtain ⟨P, hP⟩ : ∃ z, Hid (wr.heap.size = z) := ⟨_, hide rfl⟩
    have H6 : Hid (BX w [(w.heap.size, #[.int .i64 fn, .int .i64 regs, .slice (some ⟨ab, ao, none⟩) L cap], 24), (w.heap.size + 1, #[.int .i64 fn, .int .i64 regs, .slice (some ⟨bb, bo, none⟩) L bcap], 24), (P, #[.int .i64 u.pc, .slice ia IL ic, .slice na NL nc], 47), (P + 1, #[.int .i64 u.pc, .slice ja IL jc, .slice ma NL mc], 47)] ((wr.alloc (.cells #[.int .i64 u.pc, .slice ia IL ic, .slice na NL nc] 47)).alloc (.cells #[.int .i64 u.pc, .slice ja IL jc, .slice ma NL mc] 47))) := by
      have q := ((unhide hB).add #[.int .i64 u.pc, .slice ia IL ic, .slice na NL nc] 47).add #[.int .i64 u.pc, .slice ja IL jc, .slice ma NL mc] 47
      simp only [World.size_alloc, List.cons_append, List.nil_append] at q
      rw [unhide hP] at q
      exact q
    clear c d hu f2 f3 g2 g3
    go_wp2_with fail
    refine (unhide HNX _ (unhide H6).b).mono ?_
    rintro e w8 ⟨rfl, b8⟩
    have H8 := hide ((unhide H6).go b8)
    clear A0 A1 A2 B0 B1 B2 k2 kl r2 rl hab hbb hbb2 rl2 b8 HNX hB H6
    rw [unhide hP]
    clear hP
    have x1 := (unhide H8).ce 2 rfl 1
    have y1 := (unhide H8).ce 3 rfl 1
    have xl := (unhide H8).lt (i := 2) rfl
    have yl := (unhide H8).lt (i := 3) rfl
    simp at x1 y1 xl yl
    go_wp2_with fail
    clear x1 y1 xl yl
    obtain ⟨G0, hG0⟩ : ∃ G0, Hid (gk = G0) := ⟨_, hide rfl⟩
    go_loopg [8] IL (fun gg t8 wr => ∃ (j : Nat), Hid (j + gg = IL) ∧ t8 = .int .i64 (j : Int) ∧ Hid (BX w [(w.heap.size, #[.int .i64 fn, .int .i64 regs, .slice (some ⟨ab, ao, none⟩) L cap], 24), (w.heap.size + 1, #[.int .i64 fn, .int .i64 regs, .slice (some ⟨bb, bo, none⟩) L bcap], 24), (P, #[.int .i64 u.pc, .slice ia IL ic, .slice na NL nc], 47), (P + 1, #[.int .i64 u.pc, .slice ja IL jc, .slice ma NL mc], 47)] wr))
    case atStart => exact ⟨0, by unfold Hid; omega, rfl, H8⟩
    case round =>
      clear H8
      obtain ⟨j, hj, rfl, hC⟩ := hrel
      have x1 := (unhide hC).ce 2 rfl 1
      have y1 := (unhide hC).ce 3 rfl 1
      have xl := (unhide hC).lt (i := 2) rfl
      have yl := (unhide hC).lt (i := 3) rfl
      simp at x1 y1 xl yl
      by_cases hlj : j < IL
      case neg =>
        have hjL : j = IL := by have := unhide hj; omega
        have j1 : ¬ (j : Int) < (IL : Int) := by omega
        clear hjL
        have HZ : Hid (BX w [(w.heap.size, #[.int .i64 fn, .int .i64 regs, .slice (some ⟨ab, ao, none⟩) L cap], 24), (w.heap.size + 1, #[.int .i64 fn, .int .i64 regs, .slice (some ⟨bb, bo, none⟩) L bcap], 24)] wr) := ⟨fun n e he => (unhide hC).h n e (by
          obtain _ | _ | n := n
          · exact he
          · exact he
          · simp at he), (unhide hC).b⟩
        go_wp2_with fail
        go_roundg (G0 - 1)
        case measure => have h1 := unhide hG0; have h2 := unhide hi; omega
        case rel => exact ⟨i + 1, by have h1 := unhide hG0; have h2 := unhide hi; unfold Hid; omega, by go_num, HZ⟩
      · have hjl : j < u.ins.length := by rw [unhide hIL]; exact hlj
        obtain ⟨x, hx⟩ : ∃ p, u.ins[j]? = some p := ⟨_, List.getElem?_eq_getElem hjl⟩
        obtain ⟨xb, xo, _, r, e1, hxl0, _, f, xc0⟩ := NV.at zIn (show NV enIn 8 InP D w u.ins (.slice ia IL ic) from unhide HIA) hx
        obtain ⟨yb, yo, _, q, e2, hyl0, _, g, yc0⟩ := NV.at zIn (show NV enIn 8 InP D' w u.ins (.slice ja IL jc) from unhide HIB) hx
        rw [unhide hIL] at e1 e2
        cases e1
        cases e2
        have HXY : Hid (∀ W, Below w.heap.size w W → Calls Tryd.prog 34 #[inV r, inV q] W fun e w' => e = .returned (.bool true) ∧ Below W.heap.size W w') := fun W hW => sameX_yes (InP.mv.bel f hW) (InP.mv.bel g hW) ((unhide HOU).2.2 x (List.mem_of_getElem? hx))
        obtain ⟨rop, rcode, rdst, rav, rn, rpc, rneed, rev⟩ := r
        obtain ⟨qop, qcode, qdst, qav, qn, qpc, qneed, qev⟩ := q
        obtain ⟨h1, h2, h3, h4, h5, h6, h7, h8⟩ := f
        obtain ⟨k1, k2, k3, k4, k5, k6, k7, k8⟩ := g
        simp only at h1 h2 h3 h4 h5 h6 h7 h8 k1 k2 k3 k4 k5 k6 k7 k8
        obtain ⟨aa, ac, ea1, hva1, hva2⟩ := h7.1.shape
        obtain ⟨ea, ec, ee1, hve1, hve2⟩ := NV.shape h8
        obtain ⟨ba, bc, ea2, hvb1, hvb2⟩ := k7.1.shape
        obtain ⟨fa, fc, ee2, hvf1, hvf2⟩ := NV.shape k8
        subst ea1 ee1 ea2 ee2 h1 h2 h3 h4 h5 h6 k1 k2 k3 k4 k5 k6
        obtain ⟨AL, hAL⟩ : ∃ z, Hid (x.args.length = z) := ⟨_, hide rfl⟩
        obtain ⟨EL, hEL⟩ : ∃ z, Hid (x.ex.length = z) := ⟨_, hide rfl⟩
        rw [unhide hAL, unhide hEL] at xc0 yc0 HXY
        unfold inV at HXY
        dsimp only at HXY
        have i0 : (0 : Int) ≤ (j : Int) := by omega
        have i1 : (j : Int) < (IL : Int) := by omega
        clear h7 h8 k7 k8 hx hva1 hva2 hve1 hve2 hvb1 hvb2 hvf1 hvf2
        go_wp2_with fail
        obtain ⟨Y, hY⟩ : ∃ W, Hid (wr.drew = W) := ⟨_, hide rfl⟩
        have HYB : Hid (BX w [(w.heap.size, #[.int .i64 fn, .int .i64 regs, .slice (some ⟨ab, ao, none⟩) L cap], 24), (w.heap.size + 1, #[.int .i64 fn, .int .i64 regs, .slice (some ⟨bb, bo, none⟩) L bcap], 24), (P, #[.int .i64 u.pc, .slice (some ⟨xb, xo, none⟩) IL ic, .slice na NL nc], 47), (P + 1, #[.int .i64 u.pc, .slice (some ⟨yb, yo, none⟩) IL jc, .slice ma NL mc], 47)] Y) := (unhide hC).go (by rw [← unhide hY]; exact ⟨rfl, rfl, rfl, Nat.le_refl _, fun _ _ => rfl⟩)
        have HCE : Hid (∀ W, Below Y.heap.size Y W → W.cell? ⟨P, 1, none⟩ = some (.slice (some ⟨xb, xo, none⟩) IL ic) ∧ W.cell? ⟨P + 1, 1, none⟩ = some (.slice (some ⟨yb, yo, none⟩) IL jc) ∧ W.cell? ⟨xb, xo + j * 8, none⟩ = some (.int .i64 x.op) ∧ W.cell? ⟨xb, xo + j * 8 + 1, none⟩ = some (.int .i64 x.code) ∧ W.cell? ⟨xb, xo + j * 8 + 2, none⟩ = some (.int .i64 x.dst) ∧ W.cell? ⟨xb, xo + j * 8 + 3, none⟩ = some (.slice aa AL ac) ∧ W.cell? ⟨xb, xo + j * 8 + 4, none⟩ = some (.int .i64 x.n) ∧ W.cell? ⟨xb, xo + j * 8 + 5, none⟩ = some (.int .i64 x.pc) ∧ W.cell? ⟨xb, xo + j * 8 + 6, none⟩ = some (.int .i64 x.need) ∧ W.cell? ⟨xb, xo + j * 8 + 7, none⟩ = some (.slice ea EL ec) ∧ W.cell? ⟨yb, yo + j * 8, none⟩ = some (.int .i64 x.op) ∧ W.cell? ⟨yb, yo + j * 8 + 1, none⟩ = some (.int .i64 x.code) ∧ W.cell? ⟨yb, yo + j * 8 + 2, none⟩ = some (.int .i64 x.dst) ∧ W.cell? ⟨yb, yo + j * 8 + 3, none⟩ = some (.slice ba AL bc) ∧ W.cell? ⟨yb, yo + j * 8 + 4, none⟩ = some (.int .i64 x.n) ∧ W.cell? ⟨yb, yo + j * 8 + 5, none⟩ = some (.int .i64 x.pc) ∧ W.cell? ⟨yb, yo + j * 8 + 6, none⟩ = some (.int .i64 x.need) ∧ W.cell? ⟨yb, yo + j * 8 + 7, none⟩ = some (.slice fa EL fc)) := fun W hW0 => by
          have hW := bl_past (unhide HYB).b hW0
          have hxl := hxl0
          have hyl := hyl0
          have xc := xc0
          have yc := yc0
          have z := (unhide HYB).go hW0
          exact ⟨z.ce 2 rfl 1, z.ce 3 rfl 1, (hW.cell (p := ⟨xb, xo + j * 8 + 0, none⟩) hxl).trans (xc 0 _ rfl), (hW.cell (p := ⟨xb, xo + j * 8 + 1, none⟩) hxl).trans (xc 1 _ rfl), (hW.cell (p := ⟨xb, xo + j * 8 + 2, none⟩) hxl).trans (xc 2 _ rfl), (hW.cell (p := ⟨xb, xo + j * 8 + 3, none⟩) hxl).trans (xc 3 _ rfl), (hW.cell (p := ⟨xb, xo + j * 8 + 4, none⟩) hxl).trans (xc 4 _ rfl), (hW.cell (p := ⟨xb, xo + j * 8 + 5, none⟩) hxl).trans (xc 5 _ rfl), (hW.cell (p := ⟨xb, xo + j * 8 + 6, none⟩) hxl).trans (xc 6 _ rfl), (hW.cell (p := ⟨xb, xo + j * 8 + 7, none⟩) hxl).trans (xc 7 _ rfl), (hW.cell (p := ⟨yb, yo + j * 8 + 0, none⟩) hyl).trans (yc 0 _ rfl), (hW.cell (p := ⟨yb, yo + j * 8 + 1, none⟩) hyl).trans (yc 1 _ rfl), (hW.cell (p := ⟨yb, yo + j * 8 + 2, none⟩) hyl).trans (yc 2 _ rfl), (hW.cell (p := ⟨yb, yo + j * 8 + 3, none⟩) hyl).trans (yc 3 _ rfl), (hW.cell (p := ⟨yb, yo + j * 8 + 4, none⟩) hyl).trans (yc 4 _ rfl), (hW.cell (p := ⟨yb, yo + j * 8 + 5, none⟩) hyl).trans (yc 5 _ rfl), (hW.cell (p := ⟨yb, yo + j * 8 + 6, none⟩) hyl).trans (yc 6 _ rfl), (hW.cell (p := ⟨yb, yo + j * 8 + 7, none⟩) hyl).trans (yc 7 _ rfl)⟩
        have HSY : Hid (Below Y.heap.size Y Y) := Below.refl _ _
        refine wp_region_held_drew (S := fun W => Below Y.heap.size Y W) (by kernel_rfl) (by rw [unhide hY]; exact Below.refl _ _) (fun hHeld => ?_)
        clear hHeld
        rw [unhide hY]
        clear hY xc0 yc0 x1 y1 xl yl
        refine wpAnyH_take (i := 0) (oi := _) (v := .pointer (some ⟨P, 1, none⟩)) rfl (by kernel_rfl) (by kernel_rfl) (by kernel_rfl) (fun _ _ _ h => h) (Or.inl ⟨by rfl, (by intro w' hSw; obtain ⟨s1, s2, p0, p1, p2, p3, p4, p5, p6, p7, q0, q1, q2, q3, q4, q5, q6, q7⟩ := unhide HCE w' hSw; go_simp)⟩) (unhide HSY) ?_
        go_simp
        refine wpAnyH_take (i := 1) (oi := _) (v := .slice (some ⟨xb, xo, none⟩) IL ic) rfl (by kernel_rfl) (by kernel_rfl) (by kernel_rfl) (fun _ _ _ h => h) (Or.inl ⟨by rfl, (by intro w' hSw; obtain ⟨s1, s2, p0, p1, p2, p3, p4, p5, p6, p7, q0, q1, q2, q3, q4, q5, q6, q7⟩ := unhide HCE w' hSw; go_simp)⟩) (unhide HSY) ?_
        go_simp
        refine wpAnyH_take (i := 2) (oi := _) (v := .int .i64 (j : Int)) rfl (by kernel_rfl) (by kernel_rfl) (by kernel_rfl) (fun _ _ _ h => h) (Or.inl ⟨by rfl, (by intro w' hSw; obtain ⟨s1, s2, p0, p1, p2, p3, p4, p5, p6, p7, q0, q1, q2, q3, q4, q5, q6, q7⟩ := unhide HCE w' hSw; go_simp)⟩) (unhide HSY) ?_
        go_simp
        refine wpAnyH_take (i := 3) (oi := _) (v := .pointer (some ⟨xb, xo + j * 8, none⟩)) rfl (by kernel_rfl) (by kernel_rfl) (by kernel_rfl) (fun _ _ _ h => h) (Or.inl ⟨by rfl, (by intro w' hSw; obtain ⟨s1, s2, p0, p1, p2, p3, p4, p5, p6, p7, q0, q1, q2, q3, q4, q5, q6, q7⟩ := unhide HCE w' hSw; go_simp)⟩) (unhide HSY) ?_
        go_simp
        refine wpAnyH_take (i := 4) (oi := _) (v := .agg #[.int .i64 x.op, .int .i64 x.code, .int .i64 x.dst, .slice aa AL ac, .int .i64 x.n, .int .i64 x.pc, .int .i64 x.need, .slice ea EL ec]) rfl (by kernel_rfl) (by kernel_rfl) (by kernel_rfl) (fun _ _ _ h => h) (Or.inl ⟨by rfl, (by intro w' hSw; obtain ⟨s1, s2, p0, p1, p2, p3, p4, p5, p6, p7, q0, q1, q2, q3, q4, q5, q6, q7⟩ := unhide HCE w' hSw; go_simp)⟩) (unhide HSY) ?_
        go_simp
        refine wpAnyH_take (i := 5) (oi := _) (v := .pointer (some ⟨P + 1, 1, none⟩)) rfl (by kernel_rfl) (by kernel_rfl) (by kernel_rfl) (fun _ _ _ h => h) (Or.inl ⟨by rfl, (by intro w' hSw; obtain ⟨s1, s2, p0, p1, p2, p3, p4, p5, p6, p7, q0, q1, q2, q3, q4, q5, q6, q7⟩ := unhide HCE w' hSw; go_simp)⟩) (unhide HSY) ?_
        go_simp
        refine wpAnyH_take (i := 6) (oi := _) (v := .slice (some ⟨yb, yo, none⟩) IL jc) rfl (by kernel_rfl) (by kernel_rfl) (by kernel_rfl) (fun _ _ _ h => h) (Or.inl ⟨by rfl, (by intro w' hSw; obtain ⟨s1, s2, p0, p1, p2, p3, p4, p5, p6, p7, q0, q1, q2, q3, q4, q5, q6, q7⟩ := unhide HCE w' hSw; go_simp)⟩) (unhide HSY) ?_
        go_simp
        refine wpAnyH_take (i := 7) (oi := _) (v := .int .i64 (j : Int)) rfl (by kernel_rfl) (by kernel_rfl) (by kernel_rfl) (fun _ _ _ h => h) (Or.inl ⟨by rfl, (by intro w' hSw; obtain ⟨s1, s2, p0, p1, p2, p3, p4, p5, p6, p7, q0, q1, q2, q3, q4, q5, q6, q7⟩ := unhide HCE w' hSw; go_simp)⟩) (unhide HSY) ?_
        go_simp
        refine wpAnyH_take (i := 8) (oi := _) (v := .pointer (some ⟨yb, yo + j * 8, none⟩)) rfl (by kernel_rfl) (by kernel_rfl) (by kernel_rfl) (fun _ _ _ h => h) (Or.inl ⟨by rfl, (by intro w' hSw; obtain ⟨s1, s2, p0, p1, p2, p3, p4, p5, p6, p7, q0, q1, q2, q3, q4, q5, q6, q7⟩ := unhide HCE w' hSw; go_simp)⟩) (unhide HSY) ?_
        go_simp
        refine wpAnyH_take (i := 9) (oi := _) (v := .agg #[.int .i64 x.op, .int .i64 x.code, .int .i64 x.dst, .slice ba AL bc, .int .i64 x.n, .int .i64 x.pc, .int .i64 x.need, .slice fa EL fc]) rfl (by kernel_rfl) (by kernel_rfl) (by kernel_rfl) (fun _ _ _ h => h) (Or.inl ⟨by rfl, (by intro w' hSw; obtain ⟨s1, s2, p0, p1, p2, p3, p4, p5, p6, p7, q0, q1, q2, q3, q4, q5, q6, q7⟩ := unhide HCE w' hSw; go_simp)⟩) (unhide HSY) ?_
        go_simp
        have HC := hide (unhide HXY Y (unhide HYB).b)
        refine wpAnyH_ready (rs := [10]) (by kernel_rfl) (by simp) ?_
        refine AllReadyH.cons (o := _) rfl (fun K hK => ?_) AllReadyH.nil
        go_simp
        refine (unhide HC).mono ?_
        rintro e Y2 ⟨rfl, b2⟩
        have HSZ := hide b2
        have HZ := hide ((unhide HYB).go b2)
        clear b2 HC HSY
        refine hK.out _ _ (unhide HSZ) (fun _ => ?_)
        clear hK K
        go_simp
        refine wpAnyH_take (i := 11) (oi := _) (v := .bool false) rfl (by kernel_rfl) (by kernel_rfl) (by kernel_rfl) (fun _ _ _ h => h) (Or.inl ⟨by rfl, (by intro w' hSw; obtain ⟨s1, s2, p0, p1, p2, p3, p4, p5, p6, p7, q0, q1, q2, q3, q4, q5, q6, q7⟩ := unhide HCE w' hSw; go_simp)⟩) (unhide HSZ) ?_
        go_simp
        refine wpAnyH_done (by kernel_rfl) ?_ _
        clear HCE HSZ HXY
        go_wp2_with fail
        go_roundg (gk - 1)
        case measure => have := unhide hj; omega
        case rel => exact ⟨j + 1, by have := unhide hj; unfold Hid; omega, by go_num, HZ⟩
end Go.Proofs.YtpbdmbmafjkinaaDoor
