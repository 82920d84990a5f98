/-
  Operands and shapes held against each other.
-/
import Derived.Test.YtpbdpejhjdoleaaRgB
namespace Go.Proofs.Ytpbdpejhjdoleaa
open Go.RowKit
set_option linter.unusedVariables false
set_option linter.unusedSimpArgs false
theorem neqO0 (p : Op) : ∀ w : World, (binOp .neq 52 (opV p) (opV p)).run Try.prog w = .ok (.bool false) w := fun w => by
  unfold opV
  go_simp
set_option maxRecDepth 100000 in
set_option maxHeartbeats 3200000 in
theorem sameOpnds_any {w : World} {D D' : Nat → Prop} {av bv : Value} {l : List Op} (ha : OpV D w l av) (hb : OpV D' w l bv) :
    Calls Try.prog 52 #[av, bv] w fun e w' => e = .returned (.bool true) ∧ ∃ m, w' = w.drewN m := by
  obtain ⟨a, acap, rfl, ha1, ha2⟩ := ha.1.shape
  obtain ⟨b, bcap, rfl, hb1, hb2⟩ := hb.1.shape
  have HA := hide ha
  have HB := hide hb
  unfold maxLen at ha2 hb2
  clear ha hb
  obtain ⟨L, hL⟩ : ∃ L, Hid (l.length = L) := ⟨_, hide rfl⟩
  rw [unhide hL] at ha1 hb1 HA HB ⊢
  have d0 : (((L : Nat) : Int) != (L : Int)) = false := by simp
  go_enter Try.func52, Try.ntmps52
  go_wp2_with fail
  go_loopg [5] L (fun gg t5 wr => ∃ (i m : Nat), Hid (i + gg = L) ∧ t5 = .int .i64 (i : Int) ∧ Hid (wr = w.drewN m))
  case atStart => exact ⟨0, 0, by unfold Hid; omega, rfl, hide rfl⟩
  case round =>
    obtain ⟨i, m, hi, rfl, hw⟩ := hrel
    have hw' := unhide hw
    subst hw'
    by_cases hlt : i < L
    · obtain ⟨o, ho⟩ : ∃ o, l[i]? = some o := ⟨_, List.getElem?_eq_getElem (by rw [unhide hL]; exact hlt)⟩
      have HA' := HA
      have HB' := HB
      rw [← unhide hL] at HA' HB'
      obtain ⟨b1, f1, c1, e1, hb1', _, x0, x1⟩ := (unhide HA').at ho
      obtain ⟨b2, f2, c2, e2, hb2', _, y0, y1⟩ := (unhide HB').at ho
      rw [unhide hL] at e1 e2
      cases e1
      cases e2
      have i0 : (0 : Int) ≤ (i : Int) := by omega
      have i1 : (i : Int) < (L : Int) := by omega
      have d1 := neqO0 o
      unfold opV at d1
      clear HA' HB' ho
      go_wp2_with fail
      go_quiet (fail)
      have HN := hide (World.drewN_drewN w m nq)
      obtain ⟨X, hX⟩ : ∃ X, Hid ((w.drewN m).drewN nq = X) := ⟨_, hide rfl⟩
      have HXX : Hid (X = w.drewN (m + nq)) := by rw [← unhide hX]; exact unhide HN
      rw [unhide hX]
      clear hX HN x0 x1 y0 y1 hb1' hb2'
      go_wp2_with fail
      go_roundg (gk - 1)
      case measure => have := unhide hi; omega
      case rel => exact ⟨i + 1, _, by have := unhide hi; unfold Hid; omega, by go_num, HXX⟩
    · have hiL : i = L := by have := unhide hi; omega
      subst hiL
      go_wp2_with fail
      go_ret
      exact ⟨rfl, m, rfl⟩
set_option maxRecDepth 100000 in
set_option maxHeartbeats 3200000 in
theorem sameShapes_any {w : World} {D D' : Nat → Prop} {av bv : Value} {l : List Sh} (ha : ShsV D w l av) (hb : ShsV D' w l bv) :
    Calls Try.prog 53 #[av, bv] w fun e w' => e = .returned (.bool true) ∧ ∃ m, w' = w.drewN m := by
  obtain ⟨a, acap, rfl, ha1, ha2⟩ := NV.shape ha
  obtain ⟨b, bcap, rfl, hb1, hb2⟩ := NV.shape hb
  have HA := hide ha
  have HB := hide hb
  unfold maxLen at ha2 hb2
  clear ha hb
  obtain ⟨L, hL⟩ : ∃ L, Hid (l.length = L) := ⟨_, hide rfl⟩
  rw [unhide hL] at ha1 hb1 HA HB ⊢
  have d0 : (((L : Nat) : Int) != (L : Int)) = false := by simp
  go_enter Try.func53, Try.ntmps53
  go_wp2_with fail
  go_loopg [5] L (fun gg t5 wr => ∃ (i m : Nat), Hid (i + gg = L) ∧ t5 = .int .i64 (i : Int) ∧ Hid (wr = w.drewN m))
  case atStart => exact ⟨0, 0, by unfold Hid; omega, rfl, hide rfl⟩
  case round =>
    obtain ⟨i, m, hi, rfl, hw⟩ := hrel
    have hw' := unhide hw
    subst hw'
    by_cases hlt : i < L
    · obtain ⟨s, hs⟩ : ∃ s, l[i]? = some s := ⟨_, List.getElem?_eq_getElem (by rw [unhide hL]; exact hlt)⟩
      have HA' := HA
      have HB' := HB
      rw [← unhide hL] at HA' HB'
      obtain ⟨b1, f1, c1, sa, sc, e1, hb1', _, p1, p2, p3, hx⟩ := (unhide HA').at hs
      obtain ⟨b2, f2, c2, ta, tc, e2, hb2', _, r1, r2, r3, hy⟩ := (unhide HB').at hs
      rw [unhide hL] at e1 e2
      cases e1
      cases e2
      obtain ⟨x0, x1, x2⟩ := hx w rfl
      obtain ⟨y0, y1, y2⟩ := hy w rfl
      have i0 : (0 : Int) ≤ (i : Int) := by omega
      have i1 : (i : Int) < (L : Int) := by omega
      have d1 : (s.fn != s.fn) = false := by simp
      have d2 : (s.pc != s.pc) = false := by simp
      have HC := hide (fun n => sameOpnds_any (w := w.drewN n) (D := D) (D' := D') (OpV.mv D D _ _ _ _ _ p1 (Fr.drewN (S := fun _ => False) n) (fun _ _ e => ⟨fun q => q, e⟩)) (OpV.mv D' D' _ _ _ _ _ r1 (Fr.drewN (S := fun _ => False) n) (fun _ _ e => ⟨fun q => q, e⟩)))
      have HC' : Hid (∀ n, Calls Try.prog 52 #[.slice sa s.sl.length sc, .slice ta s.sl.length tc] (w.drewN (m + n)) fun e w' => e = .returned (.bool true) ∧ ∃ k, w' = w.drewN (m + k)) := fun n => (unhide HC (m + n)).mono fun _ _ ⟨he, k, hk⟩ => ⟨he, n + k, by rw [hk, World.drewN_drewN, Nat.add_assoc]⟩
      unfold maxLen at p3 r3
      clear HA' HB' hs hx hy p1 r1 HC
      go_wp2_with fail
      go_quiet (first | (go_at_call 52; exact unhide HC' _))
      have HN := hide (World.drewN_drewN w m nq)
      obtain ⟨X, hX⟩ : ∃ X, Hid ((w.drewN m).drewN nq = X) := ⟨_, hide rfl⟩
      have HXX : Hid (X = w.drewN (m + nq)) := by rw [← unhide hX]; exact unhide HN
      rw [unhide hX]
      clear hX HN x0 x1 x2 y0 y1 y2 hb1' hb2' HC'
      go_wp2_with fail
      go_roundg (gk - 1)
      case measure => have := unhide hi; omega
      case rel => exact ⟨i + 1, _, by have := unhide hi; unfold Hid; omega, by go_num, HXX⟩
    · have hiL : i = L := by have := unhide hi; omega
      subst hiL
      go_wp2_with fail
      go_ret
      exact ⟨rfl, m, rfl⟩
end Go.Proofs.Ytpbdpejhjdoleaa
