/-
  List, Plus, Minus, Up.
-/
import Derived.Test.YtnikbaibchgmnaaLists
import Derived.Deep.WholeRow
import Derived.Deep.MidRow
namespace Go.Proofs.Ytnikbaibchgmnaa
open Go.RowKit

theorem band_32 (x : Nat) (h : x < 18446744073709551616) : bits .and .u64 (x : Int) 4294967295 = ((x % 4294967296 : Nat) : Int) := by
  go_bits2
theorem Rd.two (w : World) (T : TypeId) (x y : Nat) (xs : List Nat) (h : xs = [x, y]) : Rd (w.alloc (.cells #[.int .u64 (x : Int), .int .u64 (y : Int)] T)) (.slice (some ⟨w.heap.size, 0, none⟩) 2 2) xs := by
  subst h
  refine .inr ⟨w.heap.size, 0, 2, rfl, Nat.le_refl _, by unfold maxLen; decide, by simp, fun i hi => ?_⟩
  have hb := heap_alloc_last w (.cells #[.int .u64 (x : Int), .int .u64 (y : Int)] T)
  rw [cell_of_row _ _ (0 + i) _ T (0, 0) hb]
  simp at hi
  obtain rfl | rfl : i = 0 ∨ i = 1 := by omega
  · rfl
  · rfl
set_option maxRecDepth 100000 in
set_option maxHeartbeats 800000 in
theorem list_any (x : Nat) (w : World) (hx : x < 18446744073709551616) :
    Calls Try.prog 36 #[.int .u64 (x : Int)] w fun e w' => ∃ v', e = .returned v' ∧ Ls w' v' x ∧ Below w.heap.size w w' := by
  have b1 := band_32 x hx
  have e0 : dig x 0 = x % 4294967296 := by simp [dig]
  have e1 : dig x 1 = x / 4294967296 := by simp [dig]; omega
  have b2 : (x : Int) / 4294967296 = ((x / 4294967296 : Nat) : Int) := rfl
  rw [← e0] at b1
  rw [← e1] at b2
  have HX : Hid (x < 4294967296 ^ 2) := by unfold Hid; omega
  have hds := hide (show ds x 2 = [dig x 0, dig x 1] from rfl)
  generalize dig x 0 = d0 at *
  generalize dig x 1 = d1 at *
  clear hx e0 e1
  go_enter Try.func36, Try.ntmps36
  go_wp2_with fail
  refine (trim_any _ x 2 _ (Rd.two _ _ _ _ _ (unhide hds)) (unhide HX) (by decide)).mono ?_
  rintro e w1 ⟨v', rfl, hL, hw1⟩
  have HL := hide hL
  subst hw1
  clear hL
  go_wp2
  go_ret
  exact ⟨_, rfl, unhide HL, below_alloc (Below.refl _ _) _⟩
theorem Ls.bound {k X : Nat} (h : k = 0 ∨ 4294967296 ^ (k - 1) ≤ X) (hb : X < 4294967296 ^ 1000) : k ≤ 1000 := by
  rcases h with h | h
  · omega
  · have := (Nat.pow_lt_pow_iff_right (show 1 < 4294967296 by decide)).1 (Nat.lt_of_le_of_lt h hb)
    omega

set_option maxRecDepth 100000 in
set_option maxHeartbeats 1600000 in
theorem plus_any (va vb : Value) (A C : Nat) (w : World) (hA : Ls w va A) (hC : Ls w vb C) (hAb : A < 4294967296 ^ 1000) (hCb : C < 4294967296 ^ 1000) :
    Calls Try.prog 46 #[va, vb] w fun e w' => ∃ v', e = .returned v' ∧ Ls w' v' (A + C) ∧ Below w.heap.size w w' := by
  obtain ⟨i0, hi0, hz0, hz1, hz2⟩ := info_parts Try.info22
  obtain ⟨ka, hRa, hXa, hta⟩ := hA
  obtain ⟨kb, hRb, hXb, htb⟩ := hC
  have bka := Ls.bound hta hAb
  have bkb := Ls.bound htb hCb
  obtain ⟨aa, capa, rfl, _, _⟩ := hRa.shapeR
  obtain ⟨ab, capb, rfl, _, _⟩ := hRb.shapeR
  have HRa := hide hRa
  have HRb := hide hRb
  rw [ds_length] at HRa HRb ⊢
  rw [ds_length]
  have HXa := hide hXa
  have HXb := hide hXb
  obtain ⟨N, hN⟩ : ∃ N, Hid (max ka kb = N) := ⟨_, rfl⟩
  have hN1 : N ≤ 1001 := by have := unhide hN; omega
  clear hRa hRb hXa hXb hta htb hAb hCb
  go_enter Try.func46, Try.ntmps46
  go_wp2
  go_loopg [5, 6, 7] N (fun k l c s wr => ∃ (j : Nat), Hid (j + k = N) ∧ s = .int .i64 (j : Int) ∧ c = .int .u64 (car A C j : Nat) ∧ Hid (Grows w l (ds (A + C) j) wr))
  case atStart => exact ⟨0, by unfold Hid; omega, rfl, by rw [car_zero]; rfl, Grows.start w _ (Below.refl _ _)⟩
  case round =>
    obtain ⟨j, hj, rfl, rfl, hG⟩ := hrel
    have hown := (unhide hG).1
    rw [ds_length] at hown
    have HO := hide hown
    clear hown
    by_cases hlt : j < N
    · have hcl := car_le A C j
      have hda := dig_lt A j
      have hdc := dig_lt C j
      have e1 := add_dig A C j
      obtain ⟨cr2, hcr2⟩ : ∃ c, Hid (car A C (j + 1) = c) := ⟨_, rfl⟩
      have e2 := add_car A C j
      rw [unhide hcr2] at e2
      replace e2 := hide e2
      have e3 := hide (ds_succ (A + C) j)
      have hza : Hid (ka ≤ j → dig A j = 0) := fun h => dig_big (unhide HXa) h
      have hzb : Hid (kb ≤ j → dig C j = 0) := fun h => dig_big (unhide HXb) h
      have ga : Hid (j < ka → ∃ b off, aa = some ⟨b, off, none⟩ ∧ wr.cell? ⟨b, off + j, none⟩ = some (.int .u64 (dig A j : Nat))) := fun h => by
        obtain ⟨b, off, e, hb, hc⟩ := (unhide HRa).at j (by rw [ds_length]; exact h)
        rw [ds_getD A ka j h] at hc
        exact ⟨b, off, e, ((unhide hG).2.cell (p := ⟨b, off + j, none⟩) hb).trans hc⟩
      have gb : Hid (j < kb → ∃ b off, ab = some ⟨b, off, none⟩ ∧ wr.cell? ⟨b, off + j, none⟩ = some (.int .u64 (dig C j : Nat))) := fun h => by
        obtain ⟨b, off, e, hb, hc⟩ := (unhide HRb).at j (by rw [ds_length]; exact h)
        rw [ds_getD C kb j h] at hc
        exact ⟨b, off, e, ((unhide hG).2.cell (p := ⟨b, off + j, none⟩) hb).trans hc⟩
      have HS : Hid (∀ v1 w1 o, World.ownsRow w1 w.heap.size 22 1 v1 (j + 1) ((ds (A + C) j).map Wd ++ [.int .u64 (dig (A + C) j : Nat)]) → World.grownBy (wr.alloc o) w1 u5.ownBlock → Grows w v1 (ds (A + C) (j + 1)) w1) := fun v1 w1 o h1 h2 => by
        rw [unhide e3]
        exact (unhide hG).step h1 (by rw [ds_length]) rfl h2
      have HD := hide (dig_lt (A + C) j)
      generalize car A C j = cr at *
      generalize dig (A + C) j = dS at *
      generalize dig A j = dA at *
      generalize dig C j = dC at *
      have j0 : (0 : Int) ≤ (j : Int) := by omega
      have q1 : (cr + dA + dC) / 4294967296 = cr2 := unhide e2
      by_cases ha : j < ka
      · obtain ⟨b1, o1, rfl, cA⟩ := unhide ga ha
        have a1 : (j : Int) < (ka : Int) := by omega
        by_cases hb : j < kb
        · obtain ⟨b2, o2, rfl, cB⟩ := unhide gb hb
          have a2 : (j : Int) < (kb : Int) := by omega
          have bb := band_32 (cr + dA + dC) (by omega)
          have bs : ((cr : Int) + dA + dC) / 4294967296 = (cr2 : Int) := by omega
          rw [e1] at bb
          have bb2 : bits .and .u64 ((cr : Int) + dA + dC) 4294967295 = (dS : Int) := bb
          clear bb e1 q1 ga gb hza hzb ha hb
          go_wp2_with (first | (at_builtin; refine wpList_append_own_at _ rfl _ _ 35 rfl w.heap.size 22 i0 (.int .u64 0) 1 8 Try.underlying35 hi0 hz0 hz1 hz2 rfl (by decide) _ _ _ rfl ((unhide HO).alloc _) ⟨wr.heap.size, 0, none⟩ 1 1 [.int .u64 (dS : Int)] rfl rfl (cell_one_new _ _ _) (by simp [Value.oneCell']) (by unfold maxLen; omega) (by omega) (by have := (unhide hG).2.size; simp; omega) ?_))
          intro v' w1 hown' hgrow hnil hat
          have HN := hide (unhide HS _ _ _ hown' hgrow)
          clear hown' hgrow hnil hat
          go_wp2
          go_roundg (gk - 1)
          case measure => have := unhide hj; omega
          case rel => exact ⟨j + 1, by have := unhide hj; unfold Hid; omega, by go_num, by rw [unhide hcr2], HN⟩
        · have z := unhide hzb (by omega)
          subst z
          have a2 : kb ≤ j := by omega
          rw [Nat.add_zero] at e1 q1
          have bb := band_32 (cr + dA) (by omega)
          have bs : ((cr : Int) + dA) / 4294967296 = (cr2 : Int) := by omega
          rw [e1] at bb
          have bb2 : bits .and .u64 ((cr : Int) + dA) 4294967295 = (dS : Int) := bb
          clear bb e1 q1 ga gb hza hzb ha hb
          go_wp2_with (first | (at_builtin; refine wpList_append_own_at _ rfl _ _ 35 rfl w.heap.size 22 i0 (.int .u64 0) 1 8 Try.underlying35 hi0 hz0 hz1 hz2 rfl (by decide) _ _ _ rfl ((unhide HO).alloc _) ⟨wr.heap.size, 0, none⟩ 1 1 [.int .u64 (dS : Int)] rfl rfl (cell_one_new _ _ _) (by simp [Value.oneCell']) (by unfold maxLen; omega) (by omega) (by have := (unhide hG).2.size; simp; omega) ?_))
          intro v' w1 hown' hgrow hnil hat
          have HN := hide (unhide HS _ _ _ hown' hgrow)
          clear hown' hgrow hnil hat
          go_wp2
          go_roundg (gk - 1)
          case measure => have := unhide hj; omega
          case rel => exact ⟨j + 1, by have := unhide hj; unfold Hid; omega, by go_num, by rw [unhide hcr2], HN⟩
      · have z := unhide hza (by omega)
        subst z
        have a1 : ka ≤ j := by omega
        have hb : j < kb := by have := unhide hN; omega
        obtain ⟨b2, o2, rfl, cB⟩ := unhide gb hb
        have a2 : (j : Int) < (kb : Int) := by omega
        rw [Nat.add_zero] at e1 q1
        have bb := band_32 (cr + dC) (by omega)
        have bs : ((cr : Int) + dC) / 4294967296 = (cr2 : Int) := by omega
        rw [e1] at bb
        have bb2 : bits .and .u64 ((cr : Int) + dC) 4294967295 = (dS : Int) := bb
        clear bb e1 q1 ga gb hza hzb ha hb
        go_wp2_with (first | (at_builtin; refine wpList_append_own_at _ rfl _ _ 35 rfl w.heap.size 22 i0 (.int .u64 0) 1 8 Try.underlying35 hi0 hz0 hz1 hz2 rfl (by decide) _ _ _ rfl ((unhide HO).alloc _) ⟨wr.heap.size, 0, none⟩ 1 1 [.int .u64 (dS : Int)] rfl rfl (cell_one_new _ _ _) (by simp [Value.oneCell']) (by unfold maxLen; omega) (by omega) (by have := (unhide hG).2.size; simp; omega) ?_))
        intro v' w1 hown' hgrow hnil hat
        have HN := hide (unhide HS _ _ _ hown' hgrow)
        clear hown' hgrow hnil hat
        go_wp2
        go_roundg (gk - 1)
        case measure => have := unhide hj; omega
        case rel => exact ⟨j + 1, by have := unhide hj; unfold Hid; omega, by go_num, by rw [unhide hcr2], HN⟩
    · obtain rfl : j = N := by have := unhide hj; omega
      have hnm := unhide hN
      have a1 : ka ≤ j := by omega
      have a2 : kb ≤ j := by omega
      have hA2 : A < 4294967296 ^ j := Nat.lt_of_lt_of_le (unhide HXa) (Nat.pow_le_pow_right (by decide) (by omega))
      have hC2 : C < 4294967296 ^ j := Nat.lt_of_lt_of_le (unhide HXb) (Nat.pow_le_pow_right (by decide) (by omega))
      have hS2 : Hid (A + C < 4294967296 ^ (j + 1)) := by unfold Hid; rw [Nat.pow_succ]; omega
      have e3 := ds_succ (A + C) j
      rw [← car_end hA2 hC2] at e3
      have HS : Hid (∀ v1 w1 o, World.ownsRow w1 w.heap.size 22 1 v1 (j + 1) ((ds (A + C) j).map Wd ++ [.int .u64 (car A C j : Nat)]) → World.grownBy (wr.alloc o) w1 u5.ownBlock → Grows w v1 (ds (A + C) (j + 1)) w1) := fun v1 w1 o h1 h2 => by
        rw [e3]
        exact (unhide hG).step h1 (by rw [ds_length]) rfl h2
      generalize car A C j = cr at *
      clear hA2 hC2 e3 hnm
      go_wp2_with (first | (at_builtin; refine wpList_append_own_at _ rfl _ _ 35 rfl w.heap.size 22 i0 (.int .u64 0) 1 8 Try.underlying35 hi0 hz0 hz1 hz2 rfl (by decide) _ _ _ rfl ((unhide HO).alloc _) ⟨wr.heap.size, 0, none⟩ 1 1 [.int .u64 (cr : Int)] rfl rfl (cell_one_new _ _ _) (by simp [Value.oneCell']) (by unfold maxLen; omega) (by omega) (by have := (unhide hG).2.size; simp; omega) ?_))
      intro v' w1 hown' hgrow hnil hat
      have HN := hide (unhide HS _ _ _ hown' hgrow)
      clear hown' hgrow hnil hat HS
      go_wp2_with fail
      refine (trim_any _ (A + C) (j + 1) _ (Rd.of_own (unhide HN).1) (unhide hS2) (by omega)).mono ?_
      rintro e w2 ⟨v2, rfl, hL, rfl⟩
      have HL := hide hL
      clear hL
      go_wp2
      go_ret
      exact ⟨_, rfl, unhide HL, (unhide HN).2⟩
end Go.Proofs.Ytnikbaibchgmnaa
