/-
  What a hexadecimal digit is worth; what stands at the beginning of a text between quotes.
-/
import Derived.Test.YthiaenkolakjeaaDoorQRq2
namespace Go.Proofs.YthiaenkolakjeaaDoor
open Go.RowKit Go.Shelf
set_option linter.unusedVariables false
set_option linter.unusedSimpArgs false
/-- What a digit is worth; 16: none. -/
def dv (n : Nat) : Nat := if 48 ≤ n ∧ n ≤ 57 then n - 48 else if 97 ≤ n ∧ n ≤ 102 then n - 87 else if 65 ≤ n ∧ n ≤ 70 then n - 55 else 16
/-- The byte that a text between quotes begins with, and how many bytes stand for it; 0: none. -/
def mn : List UInt8 → Nat × Nat
  | [] => (0, 0)
  | c :: r =>
    if c.toNat = 34 ∨ c.toNat = 10 then (0, 0)
    else if c.toNat ≠ 92 then (c.toNat, 1)
    else match r with
      | [] => (0, 0)
      | d :: q =>
        if d.toNat = 34 ∨ d.toNat = 92 then (d.toNat, 2)
        else if d.toNat = 110 then (10, 2)
        else if d.toNat = 120 then
          match q with
          | x :: y :: _ => if dv x.toNat ≤ 15 ∧ dv y.toNat ≤ 15 then (16 * dv x.toNat + dv y.toNat, 4) else (0, 0)
          | _ => (0, 0)
        else (0, 0)
set_option maxHeartbeats 1000000 in
set_option maxRecDepth 100000 in
theorem worth_any (w : World) (n : Nat) (h : n < 256) : Calls Tryd.prog 15 #[.int .u8 (n : Int)] w fun e w' => e = .returned (.int .i64 (dv n : Int)) ∧ w' = w := by
  unfold dv
  by_cases h1 : 48 ≤ n ∧ n ≤ 57
  · rw [if_pos h1]
    have a1 : (48 : Int) ≤ (n : Int) := by omega
    have a2 : (n : Int) ≤ 57 := by omega
    have a3 : IntKind.u8.wrap ((n : Int) - 48) = ((n - 48 : Nat) : Int) := by rw [IntKind.wrap_u8]; omega
    have a4 : IntKind.i64.wrap ((n - 48 : Nat) : Int) = ((n - 48 : Nat) : Int) := by rw [IntKind.wrap_i64]; omega
    obtain ⟨m, hm⟩ : ∃ m : Int, m = ((n - 48 : Nat) : Int) := ⟨_, rfl⟩
    rw [← hm] at a3 a4 ⊢
    clear hm
    go_enter Tryd.func15, Tryd.ntmps15
    go_wp2_with fail
    go_ret
    exact ⟨rfl, rfl⟩
  rw [if_neg h1]
  by_cases h2 : 97 ≤ n ∧ n ≤ 102
  · rw [if_pos h2]
    have a1 : (48 : Int) ≤ (n : Int) := by omega
    have a2 : ¬ (n : Int) ≤ 57 := by omega
    have a5 : (97 : Int) ≤ (n : Int) := by omega
    have a6 : (n : Int) ≤ 102 := by omega
    obtain ⟨m, hm⟩ : ∃ m : Int, m = (n : Int) - 97 := ⟨_, rfl⟩
    have a3 : IntKind.u8.wrap ((n : Int) - 97) = m := by rw [IntKind.wrap_u8]; omega
    have a4 : IntKind.i64.wrap m = m := by rw [IntKind.wrap_i64]; omega
    obtain ⟨R, hR⟩ : ∃ R : Int, R = ((n - 87 : Nat) : Int) := ⟨_, rfl⟩
    have a7 : IntKind.i64.wrap (m + 10) = R := by rw [IntKind.wrap_i64]; omega
    rw [← hR]
    clear hm
    go_enter Tryd.func15, Tryd.ntmps15
    go_wp2_with fail
    go_ret
    exact ⟨rfl, rfl⟩
  rw [if_neg h2]
  by_cases h3 : 65 ≤ n ∧ n ≤ 70
  · rw [if_pos h3]
    have a1 : (48 : Int) ≤ (n : Int) := by omega
    have a2 : ¬ (n : Int) ≤ 57 := by omega
    have a5 : ¬ (97 : Int) ≤ (n : Int) := by omega
    have a8 : (65 : Int) ≤ (n : Int) := by omega
    have a9 : (n : Int) ≤ 70 := by omega
    obtain ⟨m, hm⟩ : ∃ m : Int, m = (n : Int) - 65 := ⟨_, rfl⟩
    have a3 : IntKind.u8.wrap ((n : Int) - 65) = m := by rw [IntKind.wrap_u8]; omega
    have a4 : IntKind.i64.wrap m = m := by rw [IntKind.wrap_i64]; omega
    obtain ⟨R, hR⟩ : ∃ R : Int, R = ((n - 55 : Nat) : Int) := ⟨_, rfl⟩
    have a7 : IntKind.i64.wrap (m + 10) = R := by rw [IntKind.wrap_i64]; omega
    rw [← hR]
    clear hm
    go_enter Tryd.func15, Tryd.ntmps15
    go_wp2_with fail
    go_ret
    exact ⟨rfl, rfl⟩
  · rw [if_neg h3]
    have b1 : (decide ((48 : Int) ≤ (n : Int)) && decide ((n : Int) ≤ 57)) = false := by simp; omega
    have b2 : (decide ((97 : Int) ≤ (n : Int)) && decide ((n : Int) ≤ 102)) = false := by simp; omega
    have b3 : (decide ((65 : Int) ≤ (n : Int)) && decide ((n : Int) ≤ 70)) = false := by simp; omega
    go_enter Tryd.func15, Tryd.ntmps15
    go_wp2_with fail
    all_goals first | omega | (go_ret; exact ⟨rfl, rfl⟩)
end Go.Proofs.YthiaenkolakjeaaDoor
