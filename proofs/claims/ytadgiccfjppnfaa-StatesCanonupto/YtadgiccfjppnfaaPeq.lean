/-
  slices.Equal of the program, told as one truth.
-/
import Derived.Test.YtadgiccfjppnfaaPcn
namespace Go.Proofs.Ytadgiccfjppnfaa
open Go.RowKit
set_option linter.unusedVariables false
set_option linter.unusedSimpArgs false
set_option maxRecDepth 100000 in
set_option maxHeartbeats 3200000 in
theorem eqL_any {w : World} {av bv : Value} {l m : List (Int)} (ha : Rx w 1 av l.length (flt enL l)) (hb : Rx w 1 bv m.length (flt enL m)) (hN : l.length ≤ 8796093021952) :
    Calls Try.prog 74 #[av, bv] w fun e w' => e = .returned (.bool (Dc (l = m))) ∧ Below w.heap.size w w' := by
  have HA := hide (fun i p (hp : l[i]? = some p) => ha.elem zL hp)
  have HB := hide (fun i p (hp : m[i]? = some p) => hb.elem zL hp)
  obtain ⟨_, a, cap, rfl, _, hcm, _⟩ := ha
  obtain ⟨_, b, bcap, rfl, hbc, hbm, _⟩ := hb
  unfold maxLen at hcm hbm
  by_cases hlm : l.length = m.length
  · obtain ⟨L, hL⟩ : ∃ L, Hid (l.length = L) := ⟨_, hide rfl⟩
    have hM : Hid (m.length = L) := by rw [← hlm]; exact hL
    rw [unhide hL] at hN HA ⊢
    rw [unhide hM] at HB hbc ⊢
    clear hlm
    have d0 : (((L : Nat) : Int) != (L : Int)) = false := by simp
    go_enter Try.func74, Try.ntmps74
    go_wp2_with fail
    go_loopg [13] L (fun gg t13 wr => ∃ (i : Nat), Hid (i + gg = L) ∧ t13 = .int .i64 (i : Int) ∧ Hid (Below w.heap.size w wr ∧ ∀ j, j < i → l[j]? = m[j]?))
    case atStart => exact ⟨0, by unfold Hid; omega, rfl, Below.refl _ _, fun j hj => by omega⟩
    case round =>
      obtain ⟨i, hi, rfl, hBX⟩ := hrel
      have hB := hide (unhide hBX).1
      by_cases hlt : i < L
      · have hil : i < l.length := by rw [unhide hL]; exact hlt
        have him : i < m.length := by rw [unhide hM]; exact hlt
        obtain ⟨p, hp⟩ : ∃ p, l[i]? = some p := ⟨_, List.getElem?_eq_getElem hil⟩
        obtain ⟨q, hq⟩ : ∃ q, m[i]? = some q := ⟨_, List.getElem?_eq_getElem him⟩
        obtain ⟨ab, ao, _, e1, _, _, hb1, c⟩ := unhide HA i p hp
        obtain ⟨bb, bo, _, e2, _, _, hb2, d⟩ := unhide HB i q hq
        cases e1
        cases e2
        have k0 : wr.cell? ⟨ab, ao + i, none⟩ = some (.int .i64 p) := ((unhide hB).cell (p := ⟨ab, ao + i, none⟩) hb1).trans (by have := c 0 _ rfl; simpa using this)
        have r0 : wr.cell? ⟨bb, bo + i, none⟩ = some (.int .i64 q) := ((unhide hB).cell (p := ⟨bb, bo + i, none⟩) hb2).trans (by have := d 0 _ rfl; simpa using this)
        have hbr := Nat.lt_of_lt_of_le hb1 (unhide hB).size
        have hgr := Nat.lt_of_lt_of_le hb2 (unhide hB).size
        have i0 : (0 : Int) ≤ (i : Int) := by omega
        have i1 : (i : Int) < (L : Int) := by omega
        have HP := hide hp
        have HQ := hide hq
        clear c d hp hq
        by_cases hpq : p = q
        · subst hpq
          go_wp2_with fail
          go_quiet (fail)
          have hB3 : Hid (Below w.heap.size w _ ∧ ∀ j, j < i + 1 → l[j]? = m[j]?) := hide ⟨(unhide hB).trans ((Fr.drewN (S := fun _ => False) nq).below (unhide hB).size (fun _ _ e => e)), fun j hj => by
            by_cases hji : j = i
            · subst hji; exact (unhide HP).trans (unhide HQ).symm
            · exact (unhide hBX).2 j (by omega)⟩
          clear HP HQ hB hBX
          go_wp2_with fail
          go_roundg (gk - 1)
          case measure => have := unhide hi; omega
          case rel => exact ⟨i + 1, by have := unhide hi; unfold Hid; omega, by go_num, hB3⟩
        · have HN : Hid (¬ l = m) := fun e => hpq (by have h1 := unhide HP; rw [e, unhide HQ] at h1; exact (Option.some.inj h1).symm)
          have d1 : (p != q) = true := by simpa using hpq
          have d2 : (p == q) = false := by simpa using hpq
          clear HP HQ hBX hpq
          go_wp2_with fail
          go_quiet (fail)
          have hB3 := hide ((unhide hB).trans ((Fr.drewN (S := fun _ => False) nq).below (unhide hB).size (fun _ _ e => e)))
          clear hB
          go_wp2_with fail
          go_ret
          exact ⟨by rw [Dc_false (unhide HN)]; rfl, unhide hB3⟩
      · have hiL : i = L := by have := unhide hi; omega
        subst hiL
        have HE : Hid (l = m) := List.ext_getElem? (fun j => by
          by_cases hj : j < i
          · exact (unhide hBX).2 j hj
          · rw [List.getElem?_eq_none (by rw [unhide hL]; omega), List.getElem?_eq_none (by rw [unhide hM]; omega)])
        clear HA HB hBX
        go_wp2_with fail
        go_ret
        exact ⟨by rw [Dc_true (unhide HE)]; rfl, unhide hB⟩
  · have HN : Hid (¬ l = m) := fun e => hlm (by rw [e])
    rw [Dc_false (unhide HN)]
    obtain ⟨L, hL⟩ : ∃ L, Hid (l.length = L) := ⟨_, hide rfl⟩
    obtain ⟨M, hM⟩ : ∃ M, Hid (m.length = M) := ⟨_, hide rfl⟩
    rw [unhide hL] at hN hlm ⊢
    rw [unhide hM] at hbc hlm ⊢
    have d0 : (((L : Nat) : Int) != (M : Int)) = true := by simpa using fun e => hlm (by omega)
    clear HA HB HN hlm
    go_enter Try.func74, Try.ntmps74
    go_wp2_with fail
    go_ret
    exact ⟨rfl, Below.refl _ _⟩
set_option maxRecDepth 100000 in
set_option maxHeartbeats 3200000 in
theorem eqT_any {w : World} {av bv : Value} {l m : List (ByteArray)} (ha : Rx w 1 av l.length (flt enT l)) (hb : Rx w 1 bv m.length (flt enT m)) (hN : l.length ≤ 8796093021952) :
    Calls Try.prog 44 #[av, bv] w fun e w' => e = .returned (.bool (Dc (l = m))) ∧ Below w.heap.size w w' := by
  have HA := hide (fun i p (hp : l[i]? = some p) => ha.elem zT hp)
  have HB := hide (fun i p (hp : m[i]? = some p) => hb.elem zT hp)
  obtain ⟨_, a, cap, rfl, _, hcm, _⟩ := ha
  obtain ⟨_, b, bcap, rfl, hbc, hbm, _⟩ := hb
  unfold maxLen at hcm hbm
  by_cases hlm : l.length = m.length
  · obtain ⟨L, hL⟩ : ∃ L, Hid (l.length = L) := ⟨_, hide rfl⟩
    have hM : Hid (m.length = L) := by rw [← hlm]; exact hL
    rw [unhide hL] at hN HA ⊢
    rw [unhide hM] at HB hbc ⊢
    clear hlm
    have d0 : (((L : Nat) : Int) != (L : Int)) = false := by simp
    go_enter Try.func44, Try.ntmps44
    go_wp2_with fail
    go_loopg [13] L (fun gg t13 wr => ∃ (i : Nat), Hid (i + gg = L) ∧ t13 = .int .i64 (i : Int) ∧ Hid (Below w.heap.size w wr ∧ ∀ j, j < i → l[j]? = m[j]?))
    case atStart => exact ⟨0, by unfold Hid; omega, rfl, Below.refl _ _, fun j hj => by omega⟩
    case round =>
      obtain ⟨i, hi, rfl, hBX⟩ := hrel
      have hB := hide (unhide hBX).1
      by_cases hlt : i < L
      · have hil : i < l.length := by rw [unhide hL]; exact hlt
        have him : i < m.length := by rw [unhide hM]; exact hlt
        obtain ⟨p, hp⟩ : ∃ p, l[i]? = some p := ⟨_, List.getElem?_eq_getElem hil⟩
        obtain ⟨q, hq⟩ : ∃ q, m[i]? = some q := ⟨_, List.getElem?_eq_getElem him⟩
        obtain ⟨ab, ao, _, e1, _, _, hb1, c⟩ := unhide HA i p hp
        obtain ⟨bb, bo, _, e2, _, _, hb2, d⟩ := unhide HB i q hq
        cases e1
        cases e2
        have k0 : wr.cell? ⟨ab, ao + i, none⟩ = some (.string p) := ((unhide hB).cell (p := ⟨ab, ao + i, none⟩) hb1).trans (by have := c 0 _ rfl; simpa using this)
        have r0 : wr.cell? ⟨bb, bo + i, none⟩ = some (.string q) := ((unhide hB).cell (p := ⟨bb, bo + i, none⟩) hb2).trans (by have := d 0 _ rfl; simpa using this)
        have hbr := Nat.lt_of_lt_of_le hb1 (unhide hB).size
        have hgr := Nat.lt_of_lt_of_le hb2 (unhide hB).size
        have i0 : (0 : Int) ≤ (i : Int) := by omega
        have i1 : (i : Int) < (L : Int) := by omega
        have HP := hide hp
        have HQ := hide hq
        clear c d hp hq
        by_cases hpq : p = q
        · subst hpq
          go_wp2_with fail
          go_quiet (fail)
          have hB3 : Hid (Below w.heap.size w _ ∧ ∀ j, j < i + 1 → l[j]? = m[j]?) := hide ⟨(unhide hB).trans ((Fr.drewN (S := fun _ => False) nq).below (unhide hB).size (fun _ _ e => e)), fun j hj => by
            by_cases hji : j = i
            · subst hji; exact (unhide HP).trans (unhide HQ).symm
            · exact (unhide hBX).2 j (by omega)⟩
          clear HP HQ hB hBX
          go_wp2_with fail
          go_roundg (gk - 1)
          case measure => have := unhide hi; omega
          case rel => exact ⟨i + 1, by have := unhide hi; unfold Hid; omega, by go_num, hB3⟩
        · have HN : Hid (¬ l = m) := fun e => hpq (by have h1 := unhide HP; rw [e, unhide HQ] at h1; exact (Option.some.inj h1).symm)
          have d1 : (p.toList == q.toList) = false := eqs_no hpq
          clear HP HQ hBX hpq
          go_wp2_with fail
          go_quiet (fail)
          have hB3 := hide ((unhide hB).trans ((Fr.drewN (S := fun _ => False) nq).below (unhide hB).size (fun _ _ e => e)))
          clear hB
          go_wp2_with fail
          go_ret
          exact ⟨by rw [Dc_false (unhide HN)]; rfl, unhide hB3⟩
      · have hiL : i = L := by have := unhide hi; omega
        subst hiL
        have HE : Hid (l = m) := List.ext_getElem? (fun j => by
          by_cases hj : j < i
          · exact (unhide hBX).2 j hj
          · rw [List.getElem?_eq_none (by rw [unhide hL]; omega), List.getElem?_eq_none (by rw [unhide hM]; omega)])
        clear HA HB hBX
        go_wp2_with fail
        go_ret
        exact ⟨by rw [Dc_true (unhide HE)]; rfl, unhide hB⟩
  · have HN : Hid (¬ l = m) := fun e => hlm (by rw [e])
    rw [Dc_false (unhide HN)]
    obtain ⟨L, hL⟩ : ∃ L, Hid (l.length = L) := ⟨_, hide rfl⟩
    obtain ⟨M, hM⟩ : ∃ M, Hid (m.length = M) := ⟨_, hide rfl⟩
    rw [unhide hL] at hN hlm ⊢
    rw [unhide hM] at hbc hlm ⊢
    have d0 : (((L : Nat) : Int) != (M : Int)) = true := by simpa using fun e => hlm (by omega)
    clear HA HB HN hlm
    go_enter Try.func44, Try.ntmps44
    go_wp2_with fail
    go_ret
    exact ⟨rfl, Below.refl _ _⟩
set_option maxRecDepth 100000 in
set_option maxHeartbeats 3200000 in
theorem eqV_any {w : World} {av bv : Value} {l m : List (Int × Int)} (ha : Rx w 2 av l.length (flt enI l)) (hb : Rx w 2 bv m.length (flt enI m)) (hN : l.length ≤ 8796093021952) :
    Calls Try.prog 73 #[av, bv] w fun e w' => e = .returned (.bool (Dc (l = m))) ∧ Below w.heap.size w w' := by
  have HA := hide (fun i p (hp : l[i]? = some p) => ha.elem zI hp)
  have HB := hide (fun i p (hp : m[i]? = some p) => hb.elem zI hp)
  obtain ⟨_, a, cap, rfl, _, hcm, _⟩ := ha
  obtain ⟨_, b, bcap, rfl, hbc, hbm, _⟩ := hb
  unfold maxLen at hcm hbm
  by_cases hlm : l.length = m.length
  · obtain ⟨L, hL⟩ : ∃ L, Hid (l.length = L) := ⟨_, hide rfl⟩
    have hM : Hid (m.length = L) := by rw [← hlm]; exact hL
    rw [unhide hL] at hN HA ⊢
    rw [unhide hM] at HB hbc ⊢
    clear hlm
    have d0 : (((L : Nat) : Int) != (L : Int)) = false := by simp
    go_enter Try.func73, Try.ntmps73
    go_wp2_with fail
    go_loopg [13] L (fun gg t13 wr => ∃ (i : Nat), Hid (i + gg = L) ∧ t13 = .int .i64 (i : Int) ∧ Hid (Below w.heap.size w wr ∧ ∀ j, j < i → l[j]? = m[j]?))
    case atStart => exact ⟨0, by unfold Hid; omega, rfl, Below.refl _ _, fun j hj => by omega⟩
    case round =>
      obtain ⟨i, hi, rfl, hBX⟩ := hrel
      have hB := hide (unhide hBX).1
      by_cases hlt : i < L
      · have hil : i < l.length := by rw [unhide hL]; exact hlt
        have him : i < m.length := by rw [unhide hM]; exact hlt
        obtain ⟨p, hp⟩ : ∃ p, l[i]? = some p := ⟨_, List.getElem?_eq_getElem hil⟩
        obtain ⟨q, hq⟩ : ∃ q, m[i]? = some q := ⟨_, List.getElem?_eq_getElem him⟩
        obtain ⟨ab, ao, _, e1, _, _, hb1, c⟩ := unhide HA i p hp
        obtain ⟨bb, bo, _, e2, _, _, hb2, d⟩ := unhide HB i q hq
        cases e1
        cases e2
        have k0 : wr.cell? ⟨ab, ao + i * 2, none⟩ = some (.int .i64 p.1) := ((unhide hB).cell (p := ⟨ab, ao + i * 2, none⟩) hb1).trans (by have := c 0 _ rfl; simpa using this)
        have r0 : wr.cell? ⟨bb, bo + i * 2, none⟩ = some (.int .i64 q.1) := ((unhide hB).cell (p := ⟨bb, bo + i * 2, none⟩) hb2).trans (by have := d 0 _ rfl; simpa using this)
        have k1 : wr.cell? ⟨ab, ao + i * 2 + 1, none⟩ = some (.int .i64 p.2) := ((unhide hB).cell (p := ⟨ab, ao + i * 2 + 1, none⟩) hb1).trans (by have := c 1 _ rfl; simpa using this)
        have r1 : wr.cell? ⟨bb, bo + i * 2 + 1, none⟩ = some (.int .i64 q.2) := ((unhide hB).cell (p := ⟨bb, bo + i * 2 + 1, none⟩) hb2).trans (by have := d 1 _ rfl; simpa using this)
        have hbr := Nat.lt_of_lt_of_le hb1 (unhide hB).size
        have hgr := Nat.lt_of_lt_of_le hb2 (unhide hB).size
        have i0 : (0 : Int) ≤ (i : Int) := by omega
        have i1 : (i : Int) < (L : Int) := by omega
        have HP := hide hp
        have HQ := hide hq
        clear c d hp hq
        by_cases hpq : p = q
        · subst hpq
          go_wp2_with fail
          go_quiet (fail)
          have hB3 : Hid (Below w.heap.size w _ ∧ ∀ j, j < i + 1 → l[j]? = m[j]?) := hide ⟨(unhide hB).trans ((Fr.drewN (S := fun _ => False) nq).below (unhide hB).size (fun _ _ e => e)), fun j hj => by
            by_cases hji : j = i
            · subst hji; exact (unhide HP).trans (unhide HQ).symm
            · exact (unhide hBX).2 j (by omega)⟩
          clear HP HQ hB hBX
          go_wp2_with fail
          go_roundg (gk - 1)
          case measure => have := unhide hi; omega
          case rel => exact ⟨i + 1, by have := unhide hi; unfold Hid; omega, by go_num, hB3⟩
        · have HN : Hid (¬ l = m) := fun e => hpq (by have h1 := unhide HP; rw [e, unhide HQ] at h1; exact (Option.some.inj h1).symm)
          obtain ⟨p1, p2⟩ := p
          obtain ⟨q1, q2⟩ := q
          simp only at k0 k1 r0 r1
          have d1 := neqV hpq
          clear HP HQ hBX hpq
          go_wp2_with fail
          go_quiet (fail)
          have hB3 := hide ((unhide hB).trans ((Fr.drewN (S := fun _ => False) nq).below (unhide hB).size (fun _ _ e => e)))
          clear hB
          go_wp2_with fail
          go_ret
          exact ⟨by rw [Dc_false (unhide HN)]; rfl, unhide hB3⟩
      · have hiL : i = L := by have := unhide hi; omega
        subst hiL
        have HE : Hid (l = m) := List.ext_getElem? (fun j => by
          by_cases hj : j < i
          · exact (unhide hBX).2 j hj
          · rw [List.getElem?_eq_none (by rw [unhide hL]; omega), List.getElem?_eq_none (by rw [unhide hM]; omega)])
        clear HA HB hBX
        go_wp2_with fail
        go_ret
        exact ⟨by rw [Dc_true (unhide HE)]; rfl, unhide hB⟩
  · have HN : Hid (¬ l = m) := fun e => hlm (by rw [e])
    rw [Dc_false (unhide HN)]
    obtain ⟨L, hL⟩ : ∃ L, Hid (l.length = L) := ⟨_, hide rfl⟩
    obtain ⟨M, hM⟩ : ∃ M, Hid (m.length = M) := ⟨_, hide rfl⟩
    rw [unhide hL] at hN hlm ⊢
    rw [unhide hM] at hbc hlm ⊢
    have d0 : (((L : Nat) : Int) != (M : Int)) = true := by simpa using fun e => hlm (by omega)
    clear HA HB HN hlm
    go_enter Try.func73, Try.ntmps73
    go_wp2_with fail
    go_ret
    exact ⟨rfl, Below.refl _ _⟩
set_option maxRecDepth 100000 in
set_option maxHeartbeats 3200000 in
theorem eqM_any {w : World} {u v : Value} {f g : Fm} (hu : FmA w u f) (hv : FmA w v g) (hN : f.sl.length ≤ 1048576) :
    Calls Try.prog 72 #[u, v] w fun e w' => e = .returned (.bool (Dc (f = g))) ∧ Below w.heap.size w w' := by
  obtain ⟨su, rfl, hu⟩ := hu
  obtain ⟨sv, rfl, hv⟩ := hv
  obtain ⟨ua, uc, rfl, hu1, hu2⟩ := hu.shape
  obtain ⟨va, vc, rfl, hv1, hv2⟩ := hv.shape
  unfold maxLen at hu2 hv2
  obtain ⟨fn, pc, sl⟩ := f
  obtain ⟨gn, gc, tl⟩ := g
  simp only at hu hv hN hu1 hv1 ⊢
  have HB := hide (bl_two w)
  have HC := hide (fun o1 o2 => eqV_any (hu.below (bl_two w o1 o2) (Nat.le_refl _)) (hv.below (bl_two w o1 o2) (Nat.le_refl _)) (by omega))
  clear hu hv
  by_cases e1 : fn = gn
  · subst e1
    by_cases e2 : pc = gc
    · subst e2
      have ed : Dc ((⟨fn, pc, sl⟩ : Fm) = ⟨fn, pc, tl⟩) = Dc (sl = tl) := Dc_congr ⟨fun e => by cases e; rfl, fun e => by rw [e]⟩
      rw [ed]
      generalize Dc (sl = tl) = d at *
      clear ed
      go_enter Try.func72, Try.ntmps72
      go_wp2_with fail
      refine (unhide HC _ _).mono ?_
      rintro e w1 ⟨rfl, hb1⟩
      have HB1 := hide hb1
      clear hb1 HC
      go_wp2_with fail
      go_ret
      exact ⟨rfl, bl_past (unhide HB _ _) (unhide HB1)⟩
    · rw [Dc_false (fun e => e2 (by cases e; rfl))]
      have d1 : (pc == gc) = false := by simpa using e2
      clear HC e2
      go_enter Try.func72, Try.ntmps72
      go_wp2_with fail
      go_ret
      exact ⟨rfl, unhide HB _ _⟩
  · rw [Dc_false (fun e => e1 (by cases e; rfl))]
    have d1 : (fn == gn) = false := by simpa using e1
    clear HC e1
    go_enter Try.func72, Try.ntmps72
    go_wp2_with fail
    go_ret
    exact ⟨rfl, unhide HB _ _⟩
theorem bool_eqlE (a b : Bool) (w : World) : (binOp .eql 4 (.bool a) (.bool b)).run Try.prog w = .ok (.bool (a == b)) w := by cases a <;> cases b <;> kernel_rfl
set_option maxRecDepth 100000 in
set_option maxHeartbeats 3200000 in
theorem eqO_any {w : World} {u v : Value} {f g : Ob} (hu : ObA w u f) (hv : ObA w v g) (hN : f.its.length ≤ 1048576) (hK : f.keys.length ≤ 1048576) :
    Calls Try.prog 46 #[u, v] w fun e w' => e = .returned (.bool (Dc (f = g))) ∧ Below w.heap.size w w' := by
  obtain ⟨iu, ku, rfl, hu, hku⟩ := hu
  obtain ⟨iv, kv, rfl, hv, hkv⟩ := hv
  obtain ⟨ua, uc, rfl, hu1, hu2⟩ := hu.shape
  obtain ⟨va, vc, rfl, hv1, hv2⟩ := hv.shape
  obtain ⟨ka, kc, rfl, hk1, hk2⟩ := hku.shape
  obtain ⟨la, lc, rfl, hl1, hl2⟩ := hkv.shape
  unfold maxLen at hu2 hv2 hk2 hl2
  obtain ⟨k1, i1, y1, f1, c1, s1⟩ := f
  obtain ⟨k2, i2, y2, f2, c2, s2⟩ := g
  simp only at hu hv hku hkv hN hK hu1 hv1 hk1 hl1 ⊢
  have HB := hide (bl_two w)
  have HC := hide (fun o1 o2 => eqV_any (hu.below (bl_two w o1 o2) (Nat.le_refl _)) (hv.below (bl_two w o1 o2) (Nat.le_refl _)) (by omega))
  have HL := hide (fun w1 (hb : Below w.heap.size w w1) => eqL_any (hku.below hb (Nat.le_refl _)) (hkv.below hb (Nat.le_refl _)) (by omega))
  clear hu hv hku hkv
  have bn := bool_eqlE
  by_cases e1 : k1 = k2
  · subst e1
    by_cases e2 : f1 = f2
    · subst e2
      by_cases e3 : c1 = c2
      · subst e3
        by_cases e4 : s1 = s2
        · subst e4
          have d4 : (s1 == s1) = true := by simp
          by_cases e5 : i1 = i2
          · have ed : Dc ((⟨k1, i1, y1, f1, c1, s1⟩ : Ob) = ⟨k1, i2, y2, f1, c1, s1⟩) = Dc (y1 = y2) := Dc_congr ⟨fun e => by cases e; rfl, fun e => by rw [e, e5]⟩
            rw [ed]
            rw [Dc_true e5] at HC
            clear ed e5
            generalize Dc (y1 = y2) = d at *
            go_enter Try.func46, Try.ntmps46
            go_wp2_with fail
            refine (unhide HC _ _).mono ?_
            rintro e w1 ⟨rfl, hb1⟩
            have hbw := bl_past (bl_two w _ _) hb1
            have m2 : w1.cell? ⟨w.heap.size, 2, none⟩ = some (.slice ka y1.length kc) := by
              refine (hb1.cell (p := ⟨w.heap.size, 2, none⟩) (by simp only [World.size_alloc]; omega)).trans ?_
              rw [World.cell?_of_block (Below.heap_alloc _ _ _ (by simp))]
              exact (new_cells w _ 43 2 _ rfl)
            have m3 : w1.cell? ⟨w.heap.size + 1, 2, none⟩ = some (.slice la y2.length lc) := by
              refine (hb1.cell (p := ⟨w.heap.size + 1, 2, none⟩) (by simp)).trans ?_
              simp
            have HL1 := hide (unhide HL w1 hbw)
            have HBw := hide hbw
            clear hb1 HC HL hbw
            go_wp2_with fail
            refine (unhide HL1).mono ?_
            rintro e w2 ⟨rfl, hb2⟩
            have HB2 := hide hb2
            clear hb2 HL1
            go_wp2_with fail
            go_ret
            exact ⟨rfl, bl_past (unhide HBw) (unhide HB2)⟩
          · rw [Dc_false (fun e => e5 (by cases e; rfl))]
            rw [Dc_false e5] at HC
            clear HL e5
            go_enter Try.func46, Try.ntmps46
            go_wp2_with fail
            refine (unhide HC _ _).mono ?_
            rintro e w1 ⟨rfl, hb1⟩
            have HB1 := hide hb1
            clear hb1 HC
            go_wp2_with fail
            go_ret
            exact ⟨rfl, bl_past (unhide HB _ _) (unhide HB1)⟩
        · rw [Dc_false (fun e => e4 (by cases e; rfl))]
          have d1 : (s1 == s2) = false := by simpa using e4
          clear HC HL e4
          go_enter Try.func46, Try.ntmps46
          go_wp2_with fail
          go_ret
          exact ⟨rfl, unhide HB _ _⟩
      · rw [Dc_false (fun e => e3 (by cases e; rfl))]
        have d1 : (c1 != c2) = true := by simpa using e3
        have d2 : (c1 == c2) = false := by simpa using e3
        clear HC HL e3
        go_enter Try.func46, Try.ntmps46
        go_wp2_with fail
        go_ret
        exact ⟨rfl, unhide HB _ _⟩
    · rw [Dc_false (fun e => e2 (by cases e; rfl))]
      have d1 : (f1 != f2) = true := by simpa using e2
      have d2 : (f1 == f2) = false := by simpa using e2
      clear HC HL e2
      go_enter Try.func46, Try.ntmps46
      go_wp2_with fail
      go_ret
      exact ⟨rfl, unhide HB _ _⟩
  · rw [Dc_false (fun e => e1 (by cases e; rfl))]
    have d1 : (k1 != k2) = true := by simpa using e1
    have d2 : (k1 == k2) = false := by simpa using e1
    clear HC HL e1
    go_enter Try.func46, Try.ntmps46
    go_wp2_with fail
    go_ret
    exact ⟨rfl, unhide HB _ _⟩
end Go.Proofs.Ytadgiccfjppnfaa
