/-
  Cmp.
-/
import Derived.Test.YtnikbaibchgmnaaSums
namespace Go.Proofs.Ytnikbaibchgmnaa
open Go.RowKit

/-- How two whole numbers are to one another. -/
def cmpN (A C : Nat) : Int := if A < C then -1 else if C < A then 1 else 0
theorem div_eq_succ {A C j : Nat} (h : A / 4294967296 ^ (j + 1) = C / 4294967296 ^ (j + 1)) : (dig A j < dig C j → A < C) ∧ (dig C j < dig A j → C < A) ∧ (dig A j = dig C j → A / 4294967296 ^ j = C / 4294967296 ^ j) := by
  unfold dig
  rw [Nat.pow_succ, ← Nat.div_div_eq_div_mul, ← Nat.div_div_eq_div_mul] at h
  have lt : ∀ x y : Nat, x / 4294967296 ^ j < y / 4294967296 ^ j → x < y := fun x y hxy => by
    rcases Nat.lt_or_ge x y with h' | h'
    · exact h'
    · have := Nat.div_le_div_right (c := 4294967296 ^ j) h'; omega
  refine ⟨fun hl => lt _ _ (by omega), fun hl => lt _ _ (by omega), fun hl => by omega⟩
theorem drewN_drewN (w : World) (a b : Nat) : (w.drewN a).drewN b = w.drewN (a + b) := by
  simp [World.drewN, Nat.add_assoc]
set_option maxRecDepth 100000 in
set_option maxHeartbeats 1600000 in
theorem cmp_any (va vb : Value) (A C : Nat) (w : World) (hA : Ls w va A) (hC : Ls w vb C) (hAb : A < 4294967296 ^ 1000) (hCb : C < 4294967296 ^ 1000) :
    Calls Try.prog 42 #[va, vb] w fun e w' => e = .returned (.int .i64 (cmpN A C)) ∧ Below w.heap.size w w' := by
  obtain ⟨ka, hRa, hXa, hta⟩ := hA
  obtain ⟨kb, hRb, hXb, htb⟩ := hC
  have bka := Ls.bound hta hAb
  have bkb := Ls.bound htb hCb
  obtain ⟨aa, capa, rfl, _, _⟩ := hRa.shapeR
  obtain ⟨ab, capb, rfl, _, _⟩ := hRb.shapeR
  have HRa := hide hRa
  have HRb := hide hRb
  rw [ds_length] at HRa HRb ⊢
  rw [ds_length]
  have HXa := hide hXa
  have HXb := hide hXb
  by_cases h1 : ka < kb
  · have : A < C := by
      rcases htb with h | h
      · omega
      · exact Nat.lt_of_lt_of_le hXa (Nat.le_trans (Nat.pow_le_pow_right (by decide) (by omega)) h)
    rw [show cmpN A C = -1 from if_pos this]
    clear hRa hRb hXa hXb hta htb hAb hCb this
    go_enter Try.func42, Try.ntmps42
    go_wp2
    go_ret
    exact ⟨rfl, Below.refl _ _⟩
  · by_cases h2 : kb < ka
    · have : C < A := by
        rcases hta with h | h
        · omega
        · exact Nat.lt_of_lt_of_le hXb (Nat.le_trans (Nat.pow_le_pow_right (by decide) (by omega)) h)
      rw [show cmpN A C = 1 from by unfold cmpN; rw [if_neg (by omega), if_pos this]]
      have g1 : kb ≤ ka := by omega
      clear hRa hRb hXa hXb hta htb hAb hCb this h1
      go_enter Try.func42, Try.ntmps42
      go_wp2
      go_ret
      exact ⟨rfl, Below.refl _ _⟩
    · obtain rfl : ka = kb := by omega
      have HD : Hid (A / 4294967296 ^ ka = C / 4294967296 ^ ka) := by unfold Hid; rw [Nat.div_eq_of_lt hXa, Nat.div_eq_of_lt hXb]
      obtain ⟨cz, hcz⟩ : ∃ c, Hid (cmpN A C = c) := ⟨_, rfl⟩
      rw [unhide hcz]
      clear hRa hRb hXa hXb hta htb hAb hCb h1 h2
      go_enter Try.func42, Try.ntmps42
      go_wp2
      go_loopg [5] ka (fun g s wr => s = .int .i64 ((g : Int) - 1) ∧ g ≤ ka ∧ Hid (A / 4294967296 ^ g = C / 4294967296 ^ g) ∧ ∃ n, wr = w.drewN n)
      case atStart => exact ⟨rfl, Nat.le_refl _, HD, 0, rfl⟩
      case round =>
        obtain ⟨rfl, hgk, hE, n0, hn0⟩ := hrel
        have HN0 := hide hn0
        by_cases h0 : gk = 0
        · subst h0
          have hAC : A = C := by have := unhide hE; simpa using this
          have hz : Hid (cz = 0) := by unfold Hid; rw [← unhide hcz]; unfold cmpN; rw [if_neg (by omega), if_neg (by omega)]
          clear hn0
          go_wp2
          go_ret
          exact ⟨by rw [unhide hz]; rfl, by rw [unhide HN0]; exact below_drewN (Below.refl _ _) _⟩
        · obtain ⟨j, rfl⟩ : ∃ j, gk = j + 1 := ⟨gk - 1, by omega⟩
          obtain ⟨b1, o1, rfl, hb1, cA0⟩ := (unhide HRa).at j (by rw [ds_length]; omega)
          obtain ⟨b2, o2, rfl, hb2, cB0⟩ := (unhide HRb).at j (by rw [ds_length]; omega)
          rw [ds_getD A ka j (by omega)] at cA0
          rw [ds_getD C ka j (by omega)] at cB0
          have cA : wr.cell? ⟨b1, o1 + j, none⟩ = some (.int .u64 (dig A j : Nat)) := by rw [hn0]; exact cA0
          have cB : wr.cell? ⟨b2, o2 + j, none⟩ = some (.int .u64 (dig C j : Nat)) := by rw [hn0]; exact cB0
          obtain ⟨d1, d2, d3⟩ := div_eq_succ (unhide hE)
          have i4 : ((j + 1 : Nat) : Int) - 1 = (j : Int) := by omega
          have i2 : (0 : Int) ≤ (j : Int) := by omega
          have i3 : (j : Int) < (ka : Int) := by omega
          rw [i4]
          clear cA0 cB0 hn0 hb1 hb2
          rcases Nat.lt_trichotomy (dig A j) (dig C j) with h | h | h
          · have hz : Hid (cz = -1) := by unfold Hid; rw [← unhide hcz]; exact if_pos (d1 h)
            generalize dig A j = dA at *
            generalize dig C j = dC at *
            have g1 : (dA : Int) < (dC : Int) := by omega
            clear d1 d2 d3
            go_wp2
            go_quiet (fail)
            go_wp2
            go_ret
            refine ⟨by rw [unhide hz]; rfl, ?_⟩
            rw [unhide HN0, drewN_drewN]
            exact below_drewN (Below.refl _ _) _
          · have hN := hide (d3 h)
            rw [h] at cA
            generalize dig C j = dC at *
            clear d1 d2 d3 h
            go_wp2
            go_quiet (fail)
            go_wp2
            go_quiet (fail)
            go_wp2
            go_roundg j
            case measure => omega
            case rel => exact ⟨by go_num, by omega, hN, _, by rw [unhide HN0, drewN_drewN]⟩
          · have hz : Hid (cz = 1) := by unfold Hid; rw [← unhide hcz]; unfold cmpN; rw [if_neg (by have := d2 h; omega), if_pos (d2 h)]
            generalize dig A j = dA at *
            generalize dig C j = dC at *
            have g1 : dC ≤ dA := by omega
            clear d1 d2 d3
            go_wp2
            go_quiet (fail)
            go_wp2
            go_quiet (fail)
            go_wp2
            go_ret
            refine ⟨by rw [unhide hz]; rfl, ?_⟩
            rw [unhide HN0, drewN_drewN, drewN_drewN]
            exact below_drewN (Below.refl _ _) _
end Go.Proofs.Ytnikbaibchgmnaa
