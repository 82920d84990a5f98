/-
  Lists that are the same; lists that were kept.
-/
import Derived.Test.YtnefmfnchimppaaFull
namespace Go.Proofs.Ytnefmfnchimppaa
open Go.RowKit
set_option linter.unusedVariables false
set_option maxRecDepth 100000 in
set_option maxHeartbeats 3200000 in
theorem sameI_any {w : World} {av bv : Value} {l : List (Int × Int)} (ha : Rx w 2 av l.length (flt enI l)) (hb : Rx w 2 bv l.length (flt enI l)) (hN : l.length ≤ 8796093021952) :
    Calls Try.prog 12 #[av, bv] w fun e w' => e = .returned (.bool true) ∧ Below w.heap.size w w' := by
  have HA := hide (fun i p (hp : l[i]? = some p) => ha.elem zI hp)
  have HB := hide (fun i p (hp : l[i]? = some p) => hb.elem zI hp)
  obtain ⟨_, a, cap, rfl, _, _, _⟩ := ha
  obtain ⟨_, b, bcap, rfl, _, _, _⟩ := hb
  obtain ⟨L, hL⟩ : ∃ L, Hid (l.length = L) := ⟨_, rfl⟩
  rw [unhide hL] at hN HA HB ⊢
  have d0 : (((L : Nat) : Int) != (L : Int)) = false := by simp
  go_enter Try.func12, Try.ntmps12
  go_wp2_with fail
  go_loopg [5] L (fun gg t5 wr => ∃ (i : Nat), Hid (i + gg = L) ∧ t5 = .int .i64 (i : Int) ∧ Hid (Below w.heap.size w wr))
  case atStart => exact ⟨0, by unfold Hid; omega, rfl, Below.refl _ _⟩
  case round =>
    obtain ⟨i, hi, rfl, hB⟩ := hrel
    by_cases hlt : i < L
    · have hil : i < l.length := by rw [unhide hL]; exact hlt
      obtain ⟨p, hp⟩ : ∃ p, l[i]? = some p := ⟨_, List.getElem?_eq_getElem hil⟩
      obtain ⟨ab, ao, _, e1, _, _, hb1, c⟩ := unhide HA i p hp
      obtain ⟨bb, bo, _, e2, _, _, hb2, d⟩ := unhide HB i p hp
      cases e1
      cases e2
      have k0 : wr.cell? ⟨ab, ao + i * 2, none⟩ = some (.int .i64 p.1) := ((unhide hB).cell (p := ⟨ab, ao + i * 2, none⟩) hb1).trans (c 0 _ rfl)
      have r0 : wr.cell? ⟨bb, bo + i * 2, none⟩ = some (.int .i64 p.1) := ((unhide hB).cell (p := ⟨bb, bo + i * 2, none⟩) hb2).trans (d 0 _ rfl)
      have k1 : wr.cell? ⟨ab, ao + i * 2 + 1, none⟩ = some (.int .i64 p.2) := ((unhide hB).cell (p := ⟨ab, ao + i * 2 + 1, none⟩) hb1).trans (c 1 _ rfl)
      have r1 : wr.cell? ⟨bb, bo + i * 2 + 1, none⟩ = some (.int .i64 p.2) := ((unhide hB).cell (p := ⟨bb, bo + i * 2 + 1, none⟩) hb2).trans (d 1 _ rfl)
      have hbr := Nat.lt_of_lt_of_le hb1 (unhide hB).size
      have hgr := Nat.lt_of_lt_of_le hb2 (unhide hB).size
      have i0 : (0 : Int) ≤ (i : Int) := by omega
      have i1 : (i : Int) < (L : Int) := by omega
      clear c d hp
      go_wp2_with fail
      go_quiet (fail)
      have hB3 := hide ((unhide hB).trans ((Fr.drewN (S := fun _ => False) nq).below (unhide hB).size (fun _ _ e => e)))
      go_wp2_with fail
      go_roundg (gk - 1)
      case measure => have := unhide hi; omega
      case rel => exact ⟨i + 1, by have := unhide hi; unfold Hid; omega, by go_num, hB3⟩
    · have hiL : i = L := by have := unhide hi; omega
      subst hiL
      go_wp2_with fail
      go_ret
      exact ⟨rfl, unhide hB⟩
set_option maxRecDepth 100000 in
set_option maxHeartbeats 3200000 in
theorem keptI_any {w : World} {lv v : Value} {l : List (Int × Int)} (hv : Rx w 2 v (l ++ mkI 64).length (flt enI (l ++ mkI 64))) (h : Rx w 2 lv l.length (flt enI l)) (hN : l.length ≤ 8796093021952) :
    Calls Try.prog 14 #[v, lv] w fun e w' => e = .returned (.bool true) ∧ Below w.heap.size w w' := by
  have HC := hide (fun i p (hp : l[i]? = some p) => h.elem zI hp)
  have HV := hide (fun i p (hp : (l ++ mkI 64)[i]? = some p) => hv.elem zI hp)
  obtain ⟨_, a, cap, rfl, _, _, _⟩ := h
  obtain ⟨_, va, vcap, rfl, _, _, _⟩ := hv
  rw [lmI_length]
  rw [lmI_length] at HV
  obtain ⟨L, hL⟩ : ∃ L, Hid (l.length = L) := ⟨_, rfl⟩
  rw [unhide hL] at hN HC HV ⊢
  have d0 : (((L : Nat) : Int) + 64 != (L : Int) + 64) = false := by simp
  go_enter Try.func14, Try.ntmps14
  go_wp2_with fail
  go_loopg [5] (L + 64) (fun gg t5 wr => ∃ (i : Nat), Hid (i + gg = L + 64) ∧ t5 = .int .i64 (i : Int) ∧ Hid (Below w.heap.size w wr))
  case atStart => exact ⟨0, by unfold Hid; omega, rfl, Below.refl _ _⟩
  case round =>
    obtain ⟨i, hi, rfl, hB⟩ := hrel
    by_cases hlt : i < L + 64
    · by_cases hl2 : i < L
      · have hil : i < l.length := by rw [unhide hL]; exact hl2
        obtain ⟨p, hp⟩ : ∃ p, l[i]? = some p := ⟨_, List.getElem?_eq_getElem hil⟩
        obtain ⟨b, so, _, e1, _, _, hb, c⟩ := unhide HC i p hp
        obtain ⟨g, off, _, e2, _, _, hg, q⟩ := unhide HV i p (lmI_left l i p hp)
        cases e1
        cases e2
        have k0 : wr.cell? ⟨b, so + i * 2, none⟩ = some (.int .i64 p.1) := ((unhide hB).cell (p := ⟨b, so + i * 2, none⟩) hb).trans (c 0 _ rfl)
        have r0 : wr.cell? ⟨g, off + i * 2, none⟩ = some (.int .i64 p.1) := ((unhide hB).cell (p := ⟨g, off + i * 2, none⟩) hg).trans (q 0 _ rfl)
        have k1 : wr.cell? ⟨b, so + i * 2 + 1, none⟩ = some (.int .i64 p.2) := ((unhide hB).cell (p := ⟨b, so + i * 2 + 1, none⟩) hb).trans (c 1 _ rfl)
        have r1 : wr.cell? ⟨g, off + i * 2 + 1, none⟩ = some (.int .i64 p.2) := ((unhide hB).cell (p := ⟨g, off + i * 2 + 1, none⟩) hg).trans (q 1 _ rfl)
        have hbr := Nat.lt_of_lt_of_le hb (unhide hB).size
        have hgr := Nat.lt_of_lt_of_le hg (unhide hB).size
        have i0 : (0 : Int) ≤ (i : Int) := by omega
        have i1 : (i : Int) < (L : Int) := by omega
        have i2 : (i : Int) < (L : Int) + 64 := by omega
        clear c q hp
        have hB2 := hide ((unhide hB).trans (((Below.refl _ wr).alloc (Nat.le_refl _) (.cells #[.int .i64 p.1, .int .i64 p.2] 38)).mono (unhide hB).size))
        go_wp2_with fail
        go_quiet (fail)
        have hB3 := hide ((unhide hB2).trans ((Fr.drewN (S := fun _ => False) nq).below (unhide hB2).size (fun _ _ e => e)))
        go_wp2_with fail
        go_roundg (gk - 1)
        case measure => have := unhide hi; omega
        case rel => exact ⟨i + 1, by have := unhide hi; unfold Hid; omega, by go_num, hB3⟩
      · obtain ⟨g, off, _, e2, _, _, hg, q⟩ := unhide HV i _ (lmI_right l i (by rw [unhide hL]; omega) (by rw [unhide hL]; omega))
        cases e2
        rw [unhide hL] at q
        have r0 : wr.cell? ⟨g, off + i * 2, none⟩ = some (.int .i64 (-7)) := ((unhide hB).cell (p := ⟨g, off + i * 2, none⟩) hg).trans (q 0 _ rfl)
        have r1 : wr.cell? ⟨g, off + i * 2 + 1, none⟩ = some (.int .i64 ((i : Int) - (L : Int))) := ((unhide hB).cell (p := ⟨g, off + i * 2 + 1, none⟩) hg).trans (q 1 _ rfl)
        have hgr := Nat.lt_of_lt_of_le hg (unhide hB).size
        have i0 : (0 : Int) ≤ (i : Int) := by omega
        have i1 : decide ((i : Int) < (L : Int)) = false := decide_eq_false (by omega)
        have i2 : (i : Int) < (L : Int) + 64 := by omega
        clear q
        have hB2 := hide ((unhide hB).trans (((Below.refl _ wr).alloc (Nat.le_refl _) (.cells #[.int .i64 (-7), .int .i64 ((i : Int) - (L : Int))] 38)).mono (unhide hB).size))
        go_wp2_with fail
        go_quiet (fail)
        have hB3 := hide ((unhide hB2).trans ((Fr.drewN (S := fun _ => False) nq).below (unhide hB2).size (fun _ _ e => e)))
        go_wp2_with fail
        go_roundg (gk - 1)
        case measure => have := unhide hi; omega
        case rel => exact ⟨i + 1, by have := unhide hi; unfold Hid; omega, by go_num, hB3⟩
    · have hiL : i = L + 64 := by have := unhide hi; omega
      subst hiL
      go_wp2_with fail
      go_ret
      exact ⟨rfl, unhide hB⟩
set_option maxRecDepth 100000 in
set_option maxHeartbeats 3200000 in
theorem sameH_any {w : World} {av bv : Value} {l : List (Hd)} (ha : Rx w 4 av l.length (flt enH l)) (hb : Rx w 4 bv l.length (flt enH l)) (hN : l.length ≤ 4398046510976) :
    Calls Try.prog 13 #[av, bv] w fun e w' => e = .returned (.bool true) ∧ Below w.heap.size w w' := by
  have HA := hide (fun i p (hp : l[i]? = some p) => ha.elem zH hp)
  have HB := hide (fun i p (hp : l[i]? = some p) => hb.elem zH hp)
  obtain ⟨_, a, cap, rfl, _, _, _⟩ := ha
  obtain ⟨_, b, bcap, rfl, _, _, _⟩ := hb
  obtain ⟨L, hL⟩ : ∃ L, Hid (l.length = L) := ⟨_, rfl⟩
  rw [unhide hL] at hN HA HB ⊢
  have d0 : (((L : Nat) : Int) != (L : Int)) = false := by simp
  go_enter Try.func13, Try.ntmps13
  go_wp2_with fail
  go_loopg [5] L (fun gg t5 wr => ∃ (i : Nat), Hid (i + gg = L) ∧ t5 = .int .i64 (i : Int) ∧ Hid (Below w.heap.size w wr))
  case atStart => exact ⟨0, by unfold Hid; omega, rfl, Below.refl _ _⟩
  case round =>
    obtain ⟨i, hi, rfl, hB⟩ := hrel
    by_cases hlt : i < L
    · have hil : i < l.length := by rw [unhide hL]; exact hlt
      obtain ⟨p, hp⟩ : ∃ p, l[i]? = some p := ⟨_, List.getElem?_eq_getElem hil⟩
      obtain ⟨ab, ao, _, e1, _, _, hb1, c⟩ := unhide HA i p hp
      obtain ⟨bb, bo, _, e2, _, _, hb2, d⟩ := unhide HB i p hp
      cases e1
      cases e2
      have k0 : wr.cell? ⟨ab, ao + i * 4, none⟩ = some (.int .i64 p.frm) := ((unhide hB).cell (p := ⟨ab, ao + i * 4, none⟩) hb1).trans (c 0 _ rfl)
      have r0 : wr.cell? ⟨bb, bo + i * 4, none⟩ = some (.int .i64 p.frm) := ((unhide hB).cell (p := ⟨bb, bo + i * 4, none⟩) hb2).trans (d 0 _ rfl)
      have k1 : wr.cell? ⟨ab, ao + i * 4 + 1, none⟩ = some (.int .i64 p.to) := ((unhide hB).cell (p := ⟨ab, ao + i * 4 + 1, none⟩) hb1).trans (c 1 _ rfl)
      have r1 : wr.cell? ⟨bb, bo + i * 4 + 1, none⟩ = some (.int .i64 p.to) := ((unhide hB).cell (p := ⟨bb, bo + i * 4 + 1, none⟩) hb2).trans (d 1 _ rfl)
      have k2 : wr.cell? ⟨ab, ao + i * 4 + 2, none⟩ = some (.int .i64 p.target) := ((unhide hB).cell (p := ⟨ab, ao + i * 4 + 2, none⟩) hb1).trans (c 2 _ rfl)
      have r2 : wr.cell? ⟨bb, bo + i * 4 + 2, none⟩ = some (.int .i64 p.target) := ((unhide hB).cell (p := ⟨bb, bo + i * 4 + 2, none⟩) hb2).trans (d 2 _ rfl)
      have k3 : wr.cell? ⟨ab, ao + i * 4 + 3, none⟩ = some (.int .i64 p.height) := ((unhide hB).cell (p := ⟨ab, ao + i * 4 + 3, none⟩) hb1).trans (c 3 _ rfl)
      have r3 : wr.cell? ⟨bb, bo + i * 4 + 3, none⟩ = some (.int .i64 p.height) := ((unhide hB).cell (p := ⟨bb, bo + i * 4 + 3, none⟩) hb2).trans (d 3 _ rfl)
      have hbr := Nat.lt_of_lt_of_le hb1 (unhide hB).size
      have hgr := Nat.lt_of_lt_of_le hb2 (unhide hB).size
      have i0 : (0 : Int) ≤ (i : Int) := by omega
      have i1 : (i : Int) < (L : Int) := by omega
      clear c d hp
      go_wp2_with fail
      go_quiet (fail)
      have hB3 := hide ((unhide hB).trans ((Fr.drewN (S := fun _ => False) nq).below (unhide hB).size (fun _ _ e => e)))
      go_wp2_with fail
      go_roundg (gk - 1)
      case measure => have := unhide hi; omega
      case rel => exact ⟨i + 1, by have := unhide hi; unfold Hid; omega, by go_num, hB3⟩
    · have hiL : i = L := by have := unhide hi; omega
      subst hiL
      go_wp2_with fail
      go_ret
      exact ⟨rfl, unhide hB⟩
set_option maxRecDepth 100000 in
set_option maxHeartbeats 3200000 in
theorem keptH_any {w : World} {lv v : Value} {l : List (Hd)} (hv : Rx w 4 v (l ++ mkH 64).length (flt enH (l ++ mkH 64))) (h : Rx w 4 lv l.length (flt enH l)) (hN : l.length ≤ 4398046510976) :
    Calls Try.prog 15 #[v, lv] w fun e w' => e = .returned (.bool true) ∧ Below w.heap.size w w' := by
  have HC := hide (fun i p (hp : l[i]? = some p) => h.elem zH hp)
  have HV := hide (fun i p (hp : (l ++ mkH 64)[i]? = some p) => hv.elem zH hp)
  obtain ⟨_, a, cap, rfl, _, _, _⟩ := h
  obtain ⟨_, va, vcap, rfl, _, _, _⟩ := hv
  rw [lmH_length]
  rw [lmH_length] at HV
  obtain ⟨L, hL⟩ : ∃ L, Hid (l.length = L) := ⟨_, rfl⟩
  rw [unhide hL] at hN HC HV ⊢
  have d0 : (((L : Nat) : Int) + 64 != (L : Int) + 64) = false := by simp
  go_enter Try.func15, Try.ntmps15
  go_wp2_with fail
  go_loopg [5] (L + 64) (fun gg t5 wr => ∃ (i : Nat), Hid (i + gg = L + 64) ∧ t5 = .int .i64 (i : Int) ∧ Hid (Below w.heap.size w wr))
  case atStart => exact ⟨0, by unfold Hid; omega, rfl, Below.refl _ _⟩
  case round =>
    obtain ⟨i, hi, rfl, hB⟩ := hrel
    by_cases hlt : i < L + 64
    · by_cases hl2 : i < L
      · have hil : i < l.length := by rw [unhide hL]; exact hl2
        obtain ⟨p, hp⟩ : ∃ p, l[i]? = some p := ⟨_, List.getElem?_eq_getElem hil⟩
        obtain ⟨b, so, _, e1, _, _, hb, c⟩ := unhide HC i p hp
        obtain ⟨g, off, _, e2, _, _, hg, q⟩ := unhide HV i p (lmH_left l i p hp)
        cases e1
        cases e2
        have k0 : wr.cell? ⟨b, so + i * 4, none⟩ = some (.int .i64 p.frm) := ((unhide hB).cell (p := ⟨b, so + i * 4, none⟩) hb).trans (c 0 _ rfl)
        have r0 : wr.cell? ⟨g, off + i * 4, none⟩ = some (.int .i64 p.frm) := ((unhide hB).cell (p := ⟨g, off + i * 4, none⟩) hg).trans (q 0 _ rfl)
        have k1 : wr.cell? ⟨b, so + i * 4 + 1, none⟩ = some (.int .i64 p.to) := ((unhide hB).cell (p := ⟨b, so + i * 4 + 1, none⟩) hb).trans (c 1 _ rfl)
        have r1 : wr.cell? ⟨g, off + i * 4 + 1, none⟩ = some (.int .i64 p.to) := ((unhide hB).cell (p := ⟨g, off + i * 4 + 1, none⟩) hg).trans (q 1 _ rfl)
        have k2 : wr.cell? ⟨b, so + i * 4 + 2, none⟩ = some (.int .i64 p.target) := ((unhide hB).cell (p := ⟨b, so + i * 4 + 2, none⟩) hb).trans (c 2 _ rfl)
        have r2 : wr.cell? ⟨g, off + i * 4 + 2, none⟩ = some (.int .i64 p.target) := ((unhide hB).cell (p := ⟨g, off + i * 4 + 2, none⟩) hg).trans (q 2 _ rfl)
        have k3 : wr.cell? ⟨b, so + i * 4 + 3, none⟩ = some (.int .i64 p.height) := ((unhide hB).cell (p := ⟨b, so + i * 4 + 3, none⟩) hb).trans (c 3 _ rfl)
        have r3 : wr.cell? ⟨g, off + i * 4 + 3, none⟩ = some (.int .i64 p.height) := ((unhide hB).cell (p := ⟨g, off + i * 4 + 3, none⟩) hg).trans (q 3 _ rfl)
        have hbr := Nat.lt_of_lt_of_le hb (unhide hB).size
        have hgr := Nat.lt_of_lt_of_le hg (unhide hB).size
        have i0 : (0 : Int) ≤ (i : Int) := by omega
        have i1 : (i : Int) < (L : Int) := by omega
        have i2 : (i : Int) < (L : Int) + 64 := by omega
        clear c q hp
        have hB2 := hide ((unhide hB).trans (((Below.refl _ wr).alloc (Nat.le_refl _) (.cells #[.int .i64 p.frm, .int .i64 p.to, .int .i64 p.target, .int .i64 p.height] 43)).mono (unhide hB).size))
        go_wp2_with fail
        go_quiet (fail)
        have hB3 := hide ((unhide hB2).trans ((Fr.drewN (S := fun _ => False) nq).below (unhide hB2).size (fun _ _ e => e)))
        go_wp2_with fail
        go_roundg (gk - 1)
        case measure => have := unhide hi; omega
        case rel => exact ⟨i + 1, by have := unhide hi; unfold Hid; omega, by go_num, hB3⟩
      · obtain ⟨g, off, _, e2, _, _, hg, q⟩ := unhide HV i _ (lmH_right l i (by rw [unhide hL]; omega) (by rw [unhide hL]; omega))
        cases e2
        rw [unhide hL] at q
        have r0 : wr.cell? ⟨g, off + i * 4, none⟩ = some (.int .i64 (-7)) := ((unhide hB).cell (p := ⟨g, off + i * 4, none⟩) hg).trans (q 0 _ rfl)
        have r1 : wr.cell? ⟨g, off + i * 4 + 1, none⟩ = some (.int .i64 ((i : Int) - (L : Int))) := ((unhide hB).cell (p := ⟨g, off + i * 4 + 1, none⟩) hg).trans (q 1 _ rfl)
        have r2 : wr.cell? ⟨g, off + i * 4 + 2, none⟩ = some (.int .i64 0) := ((unhide hB).cell (p := ⟨g, off + i * 4 + 2, none⟩) hg).trans (q 2 _ rfl)
        have r3 : wr.cell? ⟨g, off + i * 4 + 3, none⟩ = some (.int .i64 0) := ((unhide hB).cell (p := ⟨g, off + i * 4 + 3, none⟩) hg).trans (q 3 _ rfl)
        have hgr := Nat.lt_of_lt_of_le hg (unhide hB).size
        have i0 : (0 : Int) ≤ (i : Int) := by omega
        have i1 : decide ((i : Int) < (L : Int)) = false := decide_eq_false (by omega)
        have i2 : (i : Int) < (L : Int) + 64 := by omega
        clear q
        have hB2 := hide ((unhide hB).trans (((Below.refl _ wr).alloc (Nat.le_refl _) (.cells #[.int .i64 (-7), .int .i64 ((i : Int) - (L : Int)), .int .i64 0, .int .i64 0] 43)).mono (unhide hB).size))
        go_wp2_with fail
        go_quiet (fail)
        have hB3 := hide ((unhide hB2).trans ((Fr.drewN (S := fun _ => False) nq).below (unhide hB2).size (fun _ _ e => e)))
        go_wp2_with fail
        go_roundg (gk - 1)
        case measure => have := unhide hi; omega
        case rel => exact ⟨i + 1, by have := unhide hi; unfold Hid; omega, by go_num, hB3⟩
    · have hiL : i = L + 64 := by have := unhide hi; omega
      subst hiL
      go_wp2_with fail
      go_ret
      exact ⟨rfl, unhide hB⟩
end Go.Proofs.Ytnefmfnchimppaa
