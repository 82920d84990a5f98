/-
  SameInts.
-/
import Derived.Test.YtaldacjeeccbhaaAin
namespace Go.Proofs.Ytaldacjeeccbhaa
open Go.RowKit
set_option linter.unusedVariables false
set_option linter.unusedSimpArgs false
set_option maxRecDepth 100000 in
set_option maxHeartbeats 3200000 in
theorem smN_any {w : World} {av bv : Value} {l m : List (Int)} (ha : Rx w 1 av l.length (flt enN l)) (hb : Rx w 1 bv m.length (flt enN m)) (hN : l.length ≤ 8796093021952) :
    Calls Try.prog 10 #[av, bv] w fun e w' => e = .returned (.bool (Dc (l = m))) ∧ Below w.heap.size w w' := by
  have HA := hide (fun i p (hp : l[i]? = some p) => ha.elem zN hp)
  have HB := hide (fun i p (hp : m[i]? = some p) => hb.elem zN hp)
  obtain ⟨_, a, cap, rfl, _, hcm, _⟩ := ha
  obtain ⟨_, b, bcap, rfl, hbc, hbm, _⟩ := hb
  unfold maxLen at hcm hbm
  by_cases hlm : l.length = m.length
  · obtain ⟨L, hL⟩ : ∃ L, Hid (l.length = L) := ⟨_, hide rfl⟩
    have hM : Hid (m.length = L) := by rw [← hlm]; exact hL
    rw [unhide hL] at hN HA ⊢
    rw [unhide hM] at HB hbc ⊢
    clear hlm
    have d0 : (((L : Nat) : Int) != (L : Int)) = false := by simp
    go_enter Try.func10, Try.ntmps10
    go_wp2_with fail
    go_loopg [5] L (fun gg t5 wr => ∃ (i : Nat), Hid (i + gg = L) ∧ t5 = .int .i64 (i : Int) ∧ Hid (Below w.heap.size w wr ∧ ∀ j, j < i → l[j]? = m[j]?))
    case atStart => exact ⟨0, by unfold Hid; omega, rfl, Below.refl _ _, fun j hj => by omega⟩
    case round =>
      obtain ⟨i, hi, rfl, hBX⟩ := hrel
      have hB := hide (unhide hBX).1
      by_cases hlt : i < L
      · have hil : i < l.length := by rw [unhide hL]; exact hlt
        have him : i < m.length := by rw [unhide hM]; exact hlt
        obtain ⟨p, hp⟩ : ∃ p, l[i]? = some p := ⟨_, List.getElem?_eq_getElem hil⟩
        obtain ⟨q, hq⟩ : ∃ q, m[i]? = some q := ⟨_, List.getElem?_eq_getElem him⟩
        obtain ⟨ab, ao, _, e1, _, _, hb1, c⟩ := unhide HA i p hp
        obtain ⟨bb, bo, _, e2, _, _, hb2, d⟩ := unhide HB i q hq
        cases e1
        cases e2
        have k0 : wr.cell? ⟨ab, ao + i, none⟩ = some (.int .i64 p) := ((unhide hB).cell (p := ⟨ab, ao + i, none⟩) hb1).trans (by have := c 0 _ rfl; simpa using this)
        have r0 : wr.cell? ⟨bb, bo + i, none⟩ = some (.int .i64 q) := ((unhide hB).cell (p := ⟨bb, bo + i, none⟩) hb2).trans (by have := d 0 _ rfl; simpa using this)
        have hbr := Nat.lt_of_lt_of_le hb1 (unhide hB).size
        have hgr := Nat.lt_of_lt_of_le hb2 (unhide hB).size
        have i0 : (0 : Int) ≤ (i : Int) := by omega
        have i1 : (i : Int) < (L : Int) := by omega
        have HP := hide hp
        have HQ := hide hq
        clear c d hp hq
        by_cases hpq : p = q
        · subst hpq
          go_wp2_with fail
          go_quiet (fail)
          have hB3 : Hid (Below w.heap.size w _ ∧ ∀ j, j < i + 1 → l[j]? = m[j]?) := hide ⟨(unhide hB).trans ((Fr.drewN (S := fun _ => False) nq).below (unhide hB).size (fun _ _ e => e)), fun j hj => by
            by_cases hji : j = i
            · subst hji; exact (unhide HP).trans (unhide HQ).symm
            · exact (unhide hBX).2 j (by omega)⟩
          clear HP HQ hB hBX
          go_wp2_with fail
          go_roundg (gk - 1)
          case measure => have := unhide hi; omega
          case rel => exact ⟨i + 1, by have := unhide hi; unfold Hid; omega, by go_num, hB3⟩
        · have HN : Hid (¬ l = m) := fun e => hpq (by have h1 := unhide HP; rw [e, unhide HQ] at h1; exact (Option.some.inj h1).symm)
          have d1 : (p != q) = true := by simpa using hpq
          have d2 : (p == q) = false := by simpa using hpq
          clear HP HQ hBX hpq
          go_wp2_with fail
          go_quiet (fail)
          have hB3 := hide ((unhide hB).trans ((Fr.drewN (S := fun _ => False) nq).below (unhide hB).size (fun _ _ e => e)))
          clear hB
          go_wp2_with fail
          go_ret
          exact ⟨by rw [Dc_false (unhide HN)]; rfl, unhide hB3⟩
      · have hiL : i = L := by have := unhide hi; omega
        subst hiL
        have HE : Hid (l = m) := List.ext_getElem? (fun j => by
          by_cases hj : j < i
          · exact (unhide hBX).2 j hj
          · rw [List.getElem?_eq_none (by rw [unhide hL]; omega), List.getElem?_eq_none (by rw [unhide hM]; omega)])
        clear HA HB hBX
        go_wp2_with fail
        go_ret
        exact ⟨by rw [Dc_true (unhide HE)]; rfl, unhide hB⟩
  · have HN : Hid (¬ l = m) := fun e => hlm (by rw [e])
    rw [Dc_false (unhide HN)]
    obtain ⟨L, hL⟩ : ∃ L, Hid (l.length = L) := ⟨_, hide rfl⟩
    obtain ⟨M, hM⟩ : ∃ M, Hid (m.length = M) := ⟨_, hide rfl⟩
    rw [unhide hL] at hN hlm ⊢
    rw [unhide hM] at hbc hlm ⊢
    have d0 : (((L : Nat) : Int) != (M : Int)) = true := by simpa using fun e => hlm (by omega)
    clear HA HB HN hlm
    go_enter Try.func10, Try.ntmps10
    go_wp2_with fail
    go_ret
    exact ⟨rfl, Below.refl _ _⟩
end Go.Proofs.Ytaldacjeeccbhaa
