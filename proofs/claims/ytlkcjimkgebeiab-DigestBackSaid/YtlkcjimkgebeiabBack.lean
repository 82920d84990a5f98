/-
  DigestBack.
-/
import Derived.Test.YtlkcjimkgebeiabHex
namespace Go.Proofs.Ytlkcjimkgebeiab
open Go.RowKit

set_option maxHeartbeats 400000 in
set_option maxRecDepth 100000 in
theorem digit_any (q : Nat) (hq : q < 16) (w : World) : Calls Try.prog 6 #[.int .u8 (hd (q : Int))] w fun e w' => e = .returned (.int .i64 (q : Int)) ∧ w' = w := by
  by_cases h : q < 10
  · rw [show hd (q : Int) = 48 + (q : Int) from by unfold hd; rw [if_pos (by omega)]]
    have h1 : (48 : Int) ≤ 48 + (q : Int) := by omega
    have h2 : 48 + (q : Int) ≤ 57 := by omega
    have h3 : 48 + (q : Int) - 48 = (q : Int) := by omega
    go_enter Try.func6, Try.ntmps6
    go_wp2
    go_ret
    exact ⟨rfl, rfl⟩
  · rw [show hd (q : Int) = 87 + (q : Int) from by unfold hd; rw [if_neg (by omega)]]
    have h1 : (48 : Int) ≤ 87 + (q : Int) := by omega
    have h2 : ¬ 87 + (q : Int) ≤ 57 := by omega
    have h4 : (97 : Int) ≤ 87 + (q : Int) := by omega
    have h5 : 87 + (q : Int) ≤ 102 := by omega
    have h3 : 87 + (q : Int) - 97 + 10 = (q : Int) := by omega
    go_enter Try.func6, Try.ntmps6
    go_wp2
    go_ret
    exact ⟨by first | rfl | (congr 2; omega), rfl⟩
theorem hexB_cons (b : Int) (t : List Int) : hexB (b :: t) = hd (b / 16) :: hd (b % 16) :: hexB t := rfl
theorem hexB_even : ∀ (x : List Int) (j : Nat), j < x.length → (hexB x).getD (2 * j) 0 = hd (x.getD j 0 / 16)
  | b :: t, 0, _ => by rw [hexB_cons]; rfl
  | b :: t, j + 1, h => by
    rw [hexB_cons, show 2 * (j + 1) = 2 * j + 2 by omega]
    exact hexB_even t j (by simpa using h)
theorem hexB_odd : ∀ (x : List Int) (j : Nat), j < x.length → (hexB x).getD (2 * j + 1) 0 = hd (x.getD j 0 % 16)
  | b :: t, 0, _ => by rw [hexB_cons]; rfl
  | b :: t, j + 1, h => by
    rw [hexB_cons, show 2 * (j + 1) + 1 = (2 * j + 1) + 2 by omega]
    exact hexB_odd t j (by simpa using h)
theorem toStr_at (bs : List Int) (hB : BOk bs) (i : Nat) (h : i < (toStr bs).size) : ((((toStr bs)[i]'h).toNat : Nat) : Int) = bs.getD i 0 := by
  have hi : i < bs.length := by rw [toStr_size] at h; exact h
  have hb := hB bs[i] (List.getElem_mem _)
  show ((((bs.map fun b => UInt8.ofNat b.toNat).toArray)[i]'(by simpa using hi)).toNat : Int) = _
  simp only [List.getElem_toArray, List.getElem_map]
  rw [UInt8.toNat_ofNat', List.getD_eq_getElem?_getD, List.getElem?_eq_getElem hi, Option.getD_some]
  omega
end Go.Proofs.Ytlkcjimkgebeiab
