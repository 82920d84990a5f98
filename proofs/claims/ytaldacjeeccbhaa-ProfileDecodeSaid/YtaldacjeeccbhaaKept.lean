/-
  What was lent is as it was.
-/
import Derived.Test.YtaldacjeeccbhaaLent
namespace Go.Proofs.Ytaldacjeeccbhaa
open Go.RowKit

set_option maxHeartbeats 1600000 in
set_option maxRecDepth 100000 in
theorem kept_any (vl vb : Value) (B : List Int) (w : World) (hL : Rd w vl (B ++ marks 64)) (hR : Rd w vb B) (hN : B.length + 64 ≤ 140737488355328) :
    Calls Try.prog 22 #[vl, vb] w fun e w' => e = .returned (.bool true) ∧ w' = w := by
  obtain ⟨a, cap, rfl⟩ := hR.shapeR
  obtain ⟨al, capl, rfl⟩ := hL.shapeR
  have hlen : (B ++ marks 64).length = B.length + 64 := by rw [List.length_append, marks_length]
  have HR := hide hR
  have HL := hide hL
  rw [hlen] at HL ⊢
  obtain ⟨N, hNN⟩ : ∃ N, Hid (B.length = N) := ⟨_, rfl⟩
  rw [unhide hNN] at hN HR HL hlen ⊢
  have HLen := hide hlen
  clear hR hL hlen
  go_enter Try.func22, Try.ntmps22
  go_wp2
  go_loopg [5] (N + 64) (fun k s wr => ∃ (j : Nat), Hid (j + k = N + 64) ∧ s = .int .i64 (j : Int) ∧ wr = w)
  case atStart => exact ⟨0, by unfold Hid; omega, rfl, rfl⟩
  case round =>
    obtain ⟨j, hj, rfl, rfl⟩ := hrel
    by_cases hlt : j < N + 64
    · obtain ⟨cb, co, rfl, hcb, hc⟩ := (unhide HL).at j (by rw [unhide HLen]; exact hlt)
      have i1 : (0 : Int) ≤ (j : Int) := by omega
      have i2 : (j : Int) < (N : Int) + 64 := by omega
      by_cases hjN : j < N
      · obtain ⟨db, d0, rfl, hdb, hd⟩ := (unhide HR).at j (by rw [unhide hNN]; exact hjN)
        have e : (B ++ marks 64).getD j 0 = B.getD j 0 := by rw [List.getD, List.getElem?_append_left (by rw [unhide hNN]; exact hjN)]; rfl
        rw [e] at hc
        generalize B.getD j 0 = b at *
        have i3 : (j : Int) < (N : Int) := by omega
        clear e
        go_wp2
        go_roundg (gk - 1)
        case measure => have := unhide hj; omega
        case rel => exact ⟨j + 1, by have := unhide hj; unfold Hid; omega, by go_num, rfl⟩
      · have e : (B ++ marks 64).getD j 0 = 201 + ((j - N : Nat) : Int) % 40 := by
          rw [List.getD, List.getElem?_append_right (by rw [unhide hNN]; omega), unhide hNN]
          exact marks_getD 64 (j - N) (by omega)
        rw [e] at hc
        obtain ⟨d, rfl⟩ : ∃ d, j = N + d := ⟨j - N, by omega⟩
        rw [Nat.add_sub_cancel_left] at hc
        clear e
        have hsub : (N : Int) + (d : Int) - (N : Int) = (d : Int) := by omega
        go_wp2
        go_roundg (gk - 1)
        case measure => have := unhide hj; omega
        case rel => exact ⟨N + d + 1, by have := unhide hj; unfold Hid; omega, by go_num, rfl⟩
    · go_wp2
      go_ret
      exact ⟨rfl, rfl⟩
end Go.Proofs.Ytaldacjeeccbhaa
