/-
  Left, Err and End of both; and which of two.
-/
import Derived.Test.YtnfinplkeefdgaaGetMore
import Derived.BigQuiet
namespace Go.Proofs.Ytnfinplkeefdgaa
open Go.RowKit

theorem Rdr.drewN {w : World} {r rb : Nat} {v : Value} {bs : List Int} {e : Int} (h : Rdr w r rb v bs e) (n : Nat) : Rdr (w.drewN n) r rb v bs e :=
  h.keep (S := fun _ => False) (Fr.drewN n) (by simp) (by simp)

theorem tmod2 (k : Int) : Int.tmod k 2 = k % 2 ∨ Int.tmod k 2 = k % 2 - 2 ∧ k % 2 = 1 ∧ k < 0 := by
  rcases Int.lt_or_le k 0 with h | h
  · have e : Int.tmod k 2 = -((-k) % 2) := by
      rw [← Int.tmod_eq_emod_of_nonneg (by omega), Int.neg_tmod, Int.neg_neg]
    rw [e]; omega
  · exact .inl (Int.tmod_eq_emod_of_nonneg h)
/-- Which of two: by the rest of a division. -/
def pick2 (k : Int) : Int := k % 2
set_option maxHeartbeats 400000 in
set_option maxRecDepth 100000 in
theorem pick_any (k : Int) (w : World) : Calls Try.prog 35 #[.int .i64 k, .int .i64 2] w fun e w' => e = .returned (.int .i64 (pick2 k)) ∧ w' = w := by
  unfold pick2
  by_cases hn : Int.tmod k 2 < 0
  · have e : k % 2 = Int.tmod k 2 + 2 := by
      have h := tmod2 k
      omega
    rw [e]
    go_enter Try.func35, Try.ntmps35
    go_wp2
    all_goals go_ret
    all_goals first | exact ⟨rfl, rfl⟩ | (refine ⟨ret_int ?_, rfl⟩; omega)
  · have e : k % 2 = Int.tmod k 2 := by have h := tmod2 k; omega
    rw [e]
    have hn' : decide (Int.tmod k 2 < 0) = false := decide_eq_false hn
    go_enter Try.func35, Try.ntmps35
    go_wp2
    all_goals go_ret
    all_goals first | exact ⟨rfl, rfl⟩ | (refine ⟨ret_int ?_, rfl⟩; omega)

set_option maxHeartbeats 1600000 in
set_option maxRecDepth 100000 in
theorem closes_any (r : Nat) {rb : Nat} (u : Value) (q : Nat) {qb : Nat} (v : Value) (B : List Int) (pl : Nat) (e0 : Int) (w : World) (hr : Rdr w r rb u (B.drop pl) e0) (h : RefR w q qb v B pl e0) (hN : B.length ≤ 140737488355328) :
    Calls Try.prog 38 #[.pointer (some ⟨r, 0, none⟩), .pointer (some ⟨q, 0, none⟩)] w fun e w' => e = .returned (.bool true) ∧ ∃ n, w' = w.drewN n := by
  have K1 := hide (fun n => rLeft_any r u _ e0 (w.drewN n) (hr.drewN n))
  have K2 := hide (fun n => refLeft_any q v B pl e0 (w.drewN n) (h.drewN n) hN)
  have K3 := hide (fun n => rErr_any r u _ e0 (w.drewN n) (hr.drewN n))
  have K4 := hide (fun n => rEnd_any r u _ e0 (w.drewN n) (hr.drewN n))
  have K5 := hide (fun n => refEnd_any q v B pl e0 (w.drewN n) (h.drewN n))
  have c2 := h.c2
  generalize (B.drop pl).length = L at K1 K2
  generalize rEnd (B.drop pl) e0 = E at K4 K5
  clear hr h
  go_enter Try.func38, Try.ntmps38
  go_wp2
  go_loopg [5] 2 (fun k s wr => ∃ (j : Nat), Hid (j + k = 2) ∧ j ≤ 2 ∧ s = .int .i64 (j : Int) ∧ ∃ n, wr = w.drewN n)
  case atStart => exact ⟨0, rfl, by omega, rfl, 0, rfl⟩
  case round =>
    obtain ⟨j, hj, hj2, rfl, n, hwr⟩ := hrel
    by_cases hlt : j < 2
    · have d2 : wr.cell? ⟨q, 2, none⟩ = some (.int .i64 e0) := by rw [hwr]; exact c2
      have k1 : Hid (∀ m, Calls Try.prog 12 #[.pointer (some ⟨r, 0, none⟩)] (wr.drewN m) fun e w' => e = .returned (.int .i64 (L : Int)) ∧ w' = wr.drewN m) := by rw [hwr]; intro m; rw [drewN_drewN]; exact unhide K1 _
      have k2 : Hid (∀ m, Calls Try.prog 69 #[.pointer (some ⟨q, 0, none⟩)] (wr.drewN m) fun e w' => e = .returned (.int .i64 (L : Int)) ∧ ∃ n, w' = (wr.drewN m).drewN n) := by rw [hwr]; intro m; rw [drewN_drewN]; exact unhide K2 _
      have k3 : Hid (∀ m, Calls Try.prog 15 #[.pointer (some ⟨r, 0, none⟩)] (wr.drewN m) fun e w' => e = .returned (.int .i64 e0) ∧ w' = wr.drewN m) := by rw [hwr]; intro m; rw [drewN_drewN]; exact unhide K3 _
      have k4 : Hid (∀ m, Calls Try.prog 13 #[.pointer (some ⟨r, 0, none⟩)] (wr.drewN m) fun e w' => e = .returned (.int .i64 E) ∧ w' = wr.drewN m) := by rw [hwr]; intro m; rw [drewN_drewN]; exact unhide K4 _
      have k5 : Hid (∀ m, Calls Try.prog 70 #[.pointer (some ⟨q, 0, none⟩)] (wr.drewN m) fun e w' => e = .returned (.int .i64 E) ∧ ∃ n, w' = (wr.drewN m).drewN n) := by rw [hwr]; intro m; rw [drewN_drewN]; exact unhide K5 _
      have HW := hide hwr
      have j0 : (j : Int) < 2 := by omega
      clear hwr
      go_wp2
      go_quiet (first | (go_at_call 12; exact Calls.quiet_of_same (unhide k1 _)) | (go_at_call 69; exact Calls.quiet_of (unhide k2 _)) | (go_at_call 15; exact Calls.quiet_of_same (unhide k3 _)) | (go_at_call 13; exact Calls.quiet_of_same (unhide k4 _)) | (go_at_call 70; exact Calls.quiet_of (unhide k5 _)) | (go_at_call 58; exact Calls.quiet_of_same (num_any _ _)))
      go_wp2
      go_roundg (gk - 1)
      case measure => have := unhide hj; omega
      case rel => exact ⟨j + 1, by have := unhide hj; unfold Hid; omega, by omega, by go_num, n + nq, by rw [unhide HW, drewN_drewN]⟩
    · have HW := hide hwr
      clear hwr
      go_wp2
      go_ret
      exact ⟨rfl, n, unhide HW⟩
end Go.Proofs.Ytnfinplkeefdgaa
