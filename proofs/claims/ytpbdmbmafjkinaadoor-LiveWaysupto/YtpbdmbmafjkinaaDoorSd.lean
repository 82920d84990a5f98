/-
  Are two lists of operands, of shapes, two instructions the same: whichever they are.
-/
import Derived.Test.YtpbdmbmafjkinaaDoorSm3
namespace Go.Proofs.YtpbdmbmafjkinaaDoor
open Go.RowKit
set_option linter.unusedVariables false
set_option linter.unusedSimpArgs false
theorem op_ne {p q : Op} (h : p ≠ q) : ¬ (p.k = q.k ∧ p.n = q.n) := fun e => h (by obtain ⟨a, b⟩ := p; obtain ⟨c, d⟩ := q; simp only at e; rw [e.1, e.2])
theorem neqO1 (p1 p2 q1 q2 : Int) (h : ¬ p1 = q1) (w : World) : (binOp .neq 70 (.agg #[.int .i64 p1, .int .i64 p2]) (.agg #[.int .i64 q1, .int .i64 q2])).run Tryd.prog w = .ok (.bool true) w := by
  go_simp
theorem neqO2 (p1 p2 q2 : Int) (h : ¬ p2 = q2) (w : World) : (binOp .neq 70 (.agg #[.int .i64 p1, .int .i64 p2]) (.agg #[.int .i64 p1, .int .i64 q2])).run Tryd.prog w = .ok (.bool true) w := by
  go_simp
theorem neqOp {p1 p2 q1 q2 : Int} (h : ¬ (p1 = q1 ∧ p2 = q2)) : ∀ w : World, (binOp .neq 70 (.agg #[.int .i64 p1, .int .i64 p2]) (.agg #[.int .i64 q1, .int .i64 q2])).run Tryd.prog w = .ok (.bool true) w := fun w => by
  by_cases e1 : p1 = q1
  · subst e1
    exact neqO2 _ _ _ (fun e2 => h ⟨rfl, e2⟩) w
  · exact neqO1 _ _ _ _ e1 w
theorem pre_ext {A : Type} {l m : List A} (hl : l.length = m.length) (h : ∀ (j : Nat) (x y : A), l[j]? = some x → m[j]? = some y → x = y) : l = m := by
  refine List.ext_getElem hl (fun j h1 h2 => h j _ _ (List.getElem?_eq_getElem h1) (List.getElem?_eq_getElem h2))
set_option maxRecDepth 100000 in
set_option maxHeartbeats 6400000 in
theorem sameO_dc {w : World} {av bv : Value} {l m : List Op} (ha : Rx w 2 av l.length (flt enO l)) (hb : Rx w 2 bv m.length (flt enO m)) (hN : l.length ≤ 8796093021952) (hM : m.length ≤ 8796093021952) :
    Calls Tryd.prog 56 #[av, bv] w fun e w' => e = .returned (.bool (Dc (l = m))) ∧ Below w.heap.size w w' := by
  have HA := hide (fun i p (hp : l[i]? = some p) => ha.elem zO hp)
  have HB := hide (fun i p (hp : m[i]? = some p) => hb.elem zO hp)
  obtain ⟨_, a, cap, rfl, hac, hcm, _⟩ := ha
  obtain ⟨_, b, bcap, rfl, hbc, hbm, _⟩ := hb
  unfold maxLen at hcm hbm
  by_cases hlm : l.length = m.length
  · obtain ⟨L, hL⟩ : ∃ L, Hid (l.length = L) := ⟨_, hide rfl⟩
    have hL2 : Hid (m.length = L) := by unfold Hid; rw [← hlm, unhide hL]
    rw [unhide hL] at hN HA hac ⊢
    rw [unhide hL2] at HB hbc ⊢
    clear hlm hM
    go_enter Tryd.func56, Tryd.ntmps56
    go_wp2_with fail
    go_loopg [5] L (fun gg t5 wr => ∃ (i : Nat), Hid (i + gg = L) ∧ t5 = .int .i64 (i : Int) ∧ Hid (Below w.heap.size w wr ∧ ∀ j x y, j < i → l[j]? = some x → m[j]? = some y → x = y))
    case atStart => exact ⟨0, by unfold Hid; omega, rfl, Below.refl _ _, fun j x y h => by omega⟩
    case round =>
      obtain ⟨i, hi, rfl, hB⟩ := hrel
      by_cases hlt : i < L
      · have hil : i < l.length := by rw [unhide hL]; exact hlt
        obtain ⟨p, hp⟩ : ∃ p, l[i]? = some p := ⟨_, List.getElem?_eq_getElem hil⟩
        obtain ⟨q, hq⟩ : ∃ q, m[i]? = some q := ⟨_, List.getElem?_eq_getElem (by rw [unhide hL2]; exact hlt)⟩
        obtain ⟨ab, ao, _, e1, _, _, hb1, c⟩ := unhide HA i p hp
        obtain ⟨bb, bo, _, e2, _, _, hb2, d⟩ := unhide HB i q hq
        cases e1
        cases e2
        have k0 : wr.cell? ⟨ab, ao + i * 2, none⟩ = some (.int .i64 p.k) := ((unhide hB).1.cell (p := ⟨ab, ao + i * 2, none⟩) hb1).trans (by have := c 0 _ rfl; simpa using this)
        have k1 : wr.cell? ⟨ab, ao + i * 2 + 1, none⟩ = some (.int .i64 p.n) := ((unhide hB).1.cell (p := ⟨ab, ao + i * 2 + 1, none⟩) hb1).trans (by have := c 1 _ rfl; simpa using this)
        have r0 : wr.cell? ⟨bb, bo + i * 2, none⟩ = some (.int .i64 q.k) := ((unhide hB).1.cell (p := ⟨bb, bo + i * 2, none⟩) hb2).trans (by have := d 0 _ rfl; simpa using this)
        have r1 : wr.cell? ⟨bb, bo + i * 2 + 1, none⟩ = some (.int .i64 q.n) := ((unhide hB).1.cell (p := ⟨bb, bo + i * 2 + 1, none⟩) hb2).trans (by have := d 1 _ rfl; simpa using this)
        have hbr := Nat.lt_of_lt_of_le hb1 (unhide hB).1.size
        have hgr := Nat.lt_of_lt_of_le hb2 (unhide hB).1.size
        have i0 : (0 : Int) ≤ (i : Int) := by omega
        have i1 : (i : Int) < (L : Int) := by omega
        have HP := hide hp
        have HQ := hide hq
        clear c d hp hq
        by_cases hpq : p = q
        · subst hpq
          have HPre : Hid (∀ j x y, j < i + 1 → l[j]? = some x → m[j]? = some y → x = y) := fun j x y hj hx hy => by
            by_cases e : j = i
            · subst e
              rw [unhide HP] at hx; rw [unhide HQ] at hy
              cases hx; cases hy; rfl
            · exact (unhide hB).2 j x y (by omega) hx hy
          go_wp2_with fail
          go_quiet (fail)
          have hB3 : Hid (Below w.heap.size w _ ∧ ∀ j x y, j < i + 1 → l[j]? = some x → m[j]? = some y → x = y) := hide ⟨(unhide hB).1.trans ((Fr.drewN (S := fun _ => False) nq).below (unhide hB).1.size (fun _ _ e => e)), unhide HPre⟩
          clear hB HPre
          go_wp2_with fail
          go_roundg (gk - 1)
          case measure => have := unhide hi; omega
          case rel => exact ⟨i + 1, by have := unhide hi; unfold Hid; omega, by go_num, hB3⟩
        · have HDC : Hid (Dc (l = m) = false) := Dc_false (fun e => hpq (by have h1 := unhide HP; have h2 := unhide HQ; rw [e, h2] at h1; cases h1; rfl))
          have hne := neqOp (op_ne hpq)
          clear hpq
          go_wp2_with fail
          go_quiet (fail)
          have hB3 := hide ((unhide hB).1.trans ((Fr.drewN (S := fun _ => False) nq).below (unhide hB).1.size (fun _ _ e => e)))
          clear hB
          go_wp2_with fail
          go_ret
          exact ⟨by rw [unhide HDC]; first | done | rfl, unhide hB3⟩
      · have hiL : i = L := by have := unhide hi; omega
        subst hiL
        have HDC : Hid (Dc (l = m) = true) := Dc_true (pre_ext (by rw [unhide hL, unhide hL2]) (fun j x y hx hy => (unhide hB).2 j x y (by rw [← unhide hL]; exact (List.getElem?_eq_some_iff.1 hx).1) hx hy))
        have hB3 := hide (unhide hB).1
        clear HA HB hB
        go_wp2_with fail
        go_ret
        exact ⟨by rw [unhide HDC]; first | done | rfl, unhide hB3⟩
  · have HDC : Hid (Dc (l = m) = false) := Dc_false (fun e => hlm (by rw [e]))
    obtain ⟨L, hL⟩ : ∃ L, Hid (l.length = L) := ⟨_, hide rfl⟩
    obtain ⟨M, hL2⟩ : ∃ L, Hid (m.length = L) := ⟨_, hide rfl⟩
    rw [unhide hL] at hN HA hac hlm ⊢
    rw [unhide hL2] at hM HB hbc hlm ⊢
    have hne : ¬ (L : Int) = (M : Int) := by omega
    go_enter Tryd.func56, Tryd.ntmps56
    go_wp2_with fail
    go_ret
    exact ⟨by rw [unhide HDC]; first | done | rfl, Below.refl _ _⟩
end Go.Proofs.YtpbdmbmafjkinaaDoor
