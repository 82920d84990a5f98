/-
  Minus.
-/
import Derived.Test.YtnikbaibchgmnaaSums
namespace Go.Proofs.Ytnikbaibchgmnaa
open Go.RowKit

set_option maxRecDepth 100000 in
set_option maxHeartbeats 1600000 in
theorem minus_any (va vb : Value) (A C : Nat) (w : World) (hA : Ls w va A) (hC : Ls w vb C) (hAb : A < 4294967296 ^ 1000) (hle : C ≤ A) :
    Calls Try.prog 47 #[va, vb] w fun e w' => ∃ v', e = .returned v' ∧ Ls w' v' (A - C) ∧ Below w.heap.size w w' := by
  obtain ⟨i0, hi0, hz0, hz1, hz2⟩ := info_parts Try.info22
  obtain ⟨ka, hRa, hXa, hta⟩ := hA
  obtain ⟨kb, hRb, hXb, htb⟩ := hC
  have bka := Ls.bound hta hAb
  obtain ⟨aa, capa, rfl, _, _⟩ := hRa.shapeR
  obtain ⟨ab, capb, rfl, _, _⟩ := hRb.shapeR
  have HRa := hide hRa
  have HRb := hide hRb
  rw [ds_length] at HRa HRb ⊢
  rw [ds_length]
  have HXa := hide hXa
  have HXb := hide hXb
  have HLE := hide hle
  clear hRa hRb hXa hXb hta htb hAb hle
  go_enter Try.func47, Try.ntmps47
  go_wp2
  go_loopg [5, 6, 7] ka (fun k l c s wr => ∃ (j : Nat), Hid (j + k = ka) ∧ s = .int .i64 (j : Int) ∧ c = .int .u64 (len A C j : Nat) ∧ Hid (Grows w l (ds (A - C) j) wr))
  case atStart => exact ⟨0, by unfold Hid; omega, rfl, by rw [len_zero]; rfl, Grows.start w _ (Below.refl _ _)⟩
  case round =>
    obtain ⟨j, hj, rfl, rfl, hG⟩ := hrel
    have hown := (unhide hG).1
    rw [ds_length] at hown
    have HO := hide hown
    clear hown
    by_cases hlt : j < ka
    · have hll := len_le A C j
      have hda := dig_lt A j
      have hdc := dig_lt C j
      have e1 := sub_step A C j (unhide HLE)
      have e3 := hide (ds_succ (A - C) j)
      have hzb : Hid (kb ≤ j → dig C j = 0) := fun h => dig_big (unhide HXb) h
      obtain ⟨b1, o1, rfl, hb1, cA0⟩ := (unhide HRa).at j (by rw [ds_length]; exact hlt)
      rw [ds_getD A ka j hlt] at cA0
      have cA : wr.cell? ⟨b1, o1 + j, none⟩ = some (.int .u64 (dig A j : Nat)) := ((unhide hG).2.cell (p := ⟨b1, o1 + j, none⟩) hb1).trans cA0
      clear cA0 hb1
      have gb : Hid (j < kb → ∃ b off, ab = some ⟨b, off, none⟩ ∧ wr.cell? ⟨b, off + j, none⟩ = some (.int .u64 (dig C j : Nat))) := fun h => by
        obtain ⟨b, off, e, hb, hc⟩ := (unhide HRb).at j (by rw [ds_length]; exact h)
        rw [ds_getD C kb j h] at hc
        exact ⟨b, off, e, ((unhide hG).2.cell (p := ⟨b, off + j, none⟩) hb).trans hc⟩
      have HS : Hid (∀ v1 w1 o, World.ownsRow w1 w.heap.size 22 1 v1 (j + 1) ((ds (A - C) j).map Wd ++ [.int .u64 (dig (A - C) j : Nat)]) → World.grownBy (wr.alloc o) w1 u5.ownBlock → Grows w v1 (ds (A - C) (j + 1)) w1) := fun v1 w1 o h1 h2 => by
        rw [unhide e3]
        exact (unhide hG).step h1 (by rw [ds_length]) rfl h2
      obtain ⟨l2, hl2⟩ : ∃ c, Hid (len A C (j + 1) = c) := ⟨_, rfl⟩
      rw [unhide hl2] at e1
      generalize len A C j = ln at *
      generalize dig (A - C) j = dS at *
      generalize dig A j = dA at *
      generalize dig C j = dC at *
      have j0 : (0 : Int) ≤ (j : Int) := by omega
      have a1 : (j : Int) < (ka : Int) := by omega
      by_cases hb : j < kb
      · obtain ⟨b2, o2, rfl, cB⟩ := unhide gb hb
        have a2 : (j : Int) < (kb : Int) := by omega
        by_cases ht : dA < ln + dC
        · obtain ⟨rfl, e2⟩ := e1.1 (by omega)
          have bs : (dA : Int) + 4294967296 - ((ln : Int) + dC) = (dS : Int) := by omega
          clear e1 e2 gb hzb hb
          go_wp2_with (first | (at_builtin; refine wpList_append_own_at _ rfl _ _ 35 rfl w.heap.size 22 i0 (.int .u64 0) 1 8 Try.underlying35 hi0 hz0 hz1 hz2 rfl (by decide) _ _ _ rfl ((unhide HO).alloc _) ⟨wr.heap.size, 0, none⟩ 1 1 [.int .u64 (dS : Int)] rfl rfl (cell_one_new _ _ _) (by simp [Value.oneCell']) (by unfold maxLen; omega) (by omega) (by have := (unhide hG).2.size; simp; omega) ?_))
          intro v' w1 hown' hgrow hnil hat
          have HN := hide (unhide HS _ _ _ hown' hgrow)
          clear hown' hgrow hnil hat
          go_wp2
          go_roundg (gk - 1)
          case measure => have := unhide hj; omega
          case rel => exact ⟨j + 1, by have := unhide hj; unfold Hid; omega, by go_num, by rw [unhide hl2]; rfl, HN⟩
        · obtain ⟨rfl, e2⟩ := e1.2 (by omega)
          have bs : (dA : Int) - ((ln : Int) + dC) = (dS : Int) := by omega
          have ht2 : ln + dC ≤ dA := by omega
          clear e1 e2 gb hzb hb
          go_wp2_with (first | (at_builtin; refine wpList_append_own_at _ rfl _ _ 35 rfl w.heap.size 22 i0 (.int .u64 0) 1 8 Try.underlying35 hi0 hz0 hz1 hz2 rfl (by decide) _ _ _ rfl ((unhide HO).alloc _) ⟨wr.heap.size, 0, none⟩ 1 1 [.int .u64 (dS : Int)] rfl rfl (cell_one_new _ _ _) (by simp [Value.oneCell']) (by unfold maxLen; omega) (by omega) (by have := (unhide hG).2.size; simp; omega) ?_))
          intro v' w1 hown' hgrow hnil hat
          have HN := hide (unhide HS _ _ _ hown' hgrow)
          clear hown' hgrow hnil hat
          go_wp2
          go_roundg (gk - 1)
          case measure => have := unhide hj; omega
          case rel => exact ⟨j + 1, by have := unhide hj; unfold Hid; omega, by go_num, by rw [unhide hl2]; rfl, HN⟩
      · have z := unhide hzb (by omega)
        subst z
        have a2 : kb ≤ j := by omega
        simp only [Nat.add_zero, Nat.zero_add] at e1
        by_cases ht : dA < ln
        · obtain ⟨rfl, e2⟩ := e1.1 (by omega)
          have bs : (dA : Int) + 4294967296 - ((ln : Int)) = (dS : Int) := by omega
          clear e1 e2 gb hzb hb
          go_wp2_with (first | (at_builtin; refine wpList_append_own_at _ rfl _ _ 35 rfl w.heap.size 22 i0 (.int .u64 0) 1 8 Try.underlying35 hi0 hz0 hz1 hz2 rfl (by decide) _ _ _ rfl ((unhide HO).alloc _) ⟨wr.heap.size, 0, none⟩ 1 1 [.int .u64 (dS : Int)] rfl rfl (cell_one_new _ _ _) (by simp [Value.oneCell']) (by unfold maxLen; omega) (by omega) (by have := (unhide hG).2.size; simp; omega) ?_))
          intro v' w1 hown' hgrow hnil hat
          have HN := hide (unhide HS _ _ _ hown' hgrow)
          clear hown' hgrow hnil hat
          go_wp2
          go_roundg (gk - 1)
          case measure => have := unhide hj; omega
          case rel => exact ⟨j + 1, by have := unhide hj; unfold Hid; omega, by go_num, by rw [unhide hl2]; rfl, HN⟩
        · obtain ⟨rfl, e2⟩ := e1.2 (by omega)
          have bs : (dA : Int) - ((ln : Int)) = (dS : Int) := by omega
          have ht2 : ln ≤ dA := by omega
          clear e1 e2 gb hzb hb
          go_wp2_with (first | (at_builtin; refine wpList_append_own_at _ rfl _ _ 35 rfl w.heap.size 22 i0 (.int .u64 0) 1 8 Try.underlying35 hi0 hz0 hz1 hz2 rfl (by decide) _ _ _ rfl ((unhide HO).alloc _) ⟨wr.heap.size, 0, none⟩ 1 1 [.int .u64 (dS : Int)] rfl rfl (cell_one_new _ _ _) (by simp [Value.oneCell']) (by unfold maxLen; omega) (by omega) (by have := (unhide hG).2.size; simp; omega) ?_))
          intro v' w1 hown' hgrow hnil hat
          have HN := hide (unhide HS _ _ _ hown' hgrow)
          clear hown' hgrow hnil hat
          go_wp2
          go_roundg (gk - 1)
          case measure => have := unhide hj; omega
          case rel => exact ⟨j + 1, by have := unhide hj; unfold Hid; omega, by go_num, by rw [unhide hl2]; rfl, HN⟩
    · obtain rfl : j = ka := by have := unhide hj; omega
      have hS2 : Hid (A - C < 4294967296 ^ j) := Nat.lt_of_le_of_lt (Nat.sub_le _ _) (unhide HXa)
      go_wp2_with fail
      refine (trim_any _ (A - C) j _ (Rd.of_own (unhide hG).1) (unhide hS2) (by omega)).mono ?_
      rintro e w2 ⟨v2, rfl, hL, rfl⟩
      have HL := hide hL
      clear hL
      go_wp2
      go_ret
      exact ⟨_, rfl, unhide HL, (unhide hG).2⟩
end Go.Proofs.Ytnikbaibchgmnaa
