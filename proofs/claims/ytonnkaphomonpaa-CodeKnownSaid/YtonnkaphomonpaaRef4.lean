/-
  The document's reader: Int, Count, Text.
-/
import Derived.Test.YtonnkaphomonpaaRef3
namespace Go.Proofs.Ytonnkaphomonpaa
open Go.RowKit

set_option maxHeartbeats 400000 in
set_option maxRecDepth 100000 in
theorem unfolded_any (x : Nat) (w : World) (hx : x < 2 ^ 64) :
    Calls Try.prog 83 #[.int .u64 (x : Int)] w fun e w' => e = .returned (.int .i64 (unfoldI x)) ∧ w' = w := by
  unfold unfoldI
  have hw : wrap64 ((x : Int) / 2) = ((x / 2 : Nat) : Int) := by unfold wrap64; omega
  by_cases h : x % 2 = 0
  · rw [if_pos h]
    have q0 : ((x : Int) % 2 == 0) = true := by rw [beq_iff_eq]; omega
    go_enter Try.func83, Try.ntmps83
    go_wp2
    go_ret
    exact ⟨rfl, rfl⟩
  · rw [if_neg h]
    have q0 : ((x : Int) % 2 == 0) = false := by rw [beq_eq_false_iff_ne]; omega
    go_enter Try.func83, Try.ntmps83
    go_wp2
    go_ret
    exact ⟨rfl, rfl⟩

set_option maxHeartbeats 400000 in
set_option maxRecDepth 100000 in
theorem refInt_any (q : Nat) {qb : Nat} (v : Value) (B : List Int) (pl : Nat) (e0 : Int) (w : World) (h : RefR w q qb v B pl e0) (hB : BOk B) (hN : B.length ≤ 140737488355328) :
    Calls Try.prog 77 #[.pointer (some ⟨q, 0, none⟩)] w fun e w' => RefPost q qb v B w (rres (.int .i64 0) (gNum (fun x => .int .i64 (unfoldI x)) (unum 0 0 (B.drop pl))) (B.drop pl) e0) e w' := by
  obtain ⟨x, left, e1, hres, hx, hr2⟩ : ∃ (x : Nat) (left : List Int) (e1 : Int), rres (.int .u64 0) (gNum (fun x => .int .u64 x) (unum 0 0 (B.drop pl))) (B.drop pl) e0 = (.int .u64 (x : Int), left, e1) ∧ x < 2 ^ 64 ∧
      rres (.int .i64 0) (gNum (fun x => .int .i64 (unfoldI x)) (unum 0 0 (B.drop pl))) (B.drop pl) e0 = (.int .i64 (unfoldI x), left, e1) := by
    unfold rres
    split
    · rcases hu : unum 0 0 (B.drop pl) with k | ⟨x, t⟩
      · exact ⟨0, _, k, rfl, by omega, rfl⟩
      · exact ⟨x, t, 0, rfl, (num_place hB h.le hu).2.2.1, rfl⟩
    · exact ⟨0, _, e0, rfl, by omega, rfl⟩
  have hC := refUint_any q v B pl e0 w h hB hN
  rw [hres] at hC
  rw [hr2]
  have HC := hide hC
  have HU := hide (fun w => unfolded_any x w hx)
  clear h hC hres hr2
  go_enter Try.func77, Try.ntmps77
  go_wp2_with fail
  refine (unhide HC).mono ?_
  rintro e w1 ⟨rfl, pl', hR, hd, hF⟩
  have HH := hide (And.intro hR (And.intro hd hF))
  clear hR hd hF
  go_wp2_with fail
  refine (unhide HU _).mono ?_
  rintro e w2 ⟨rfl, hw2⟩
  rw [hw2]
  clear hw2 w2
  go_wp2
  go_ret
  exact ⟨rfl, pl', (unhide HH).1, (unhide HH).2.1, (unhide HH).2.2⟩

end Go.Proofs.Ytonnkaphomonpaa
