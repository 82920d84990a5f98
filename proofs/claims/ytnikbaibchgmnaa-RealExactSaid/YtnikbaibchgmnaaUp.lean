/-
  Up.
-/
import Derived.Test.YtnikbaibchgmnaaSums
namespace Go.Proofs.Ytnikbaibchgmnaa
open Go.RowKit

theorem shl_digits (A n : Nat) : A * 2 ^ n = A * 2 ^ (n % 32) * 4294967296 ^ (n / 32) := by
  rw [show (4294967296 : Nat) = 2 ^ 32 from rfl, ← Nat.pow_mul, Nat.mul_assoc, ← Nat.pow_add, Nat.mod_add_div]
set_option maxRecDepth 100000 in
set_option maxHeartbeats 1600000 in
theorem up_any (va : Value) (A n : Nat) (w : World) (hA : Ls w va A) (hAb : A < 4294967296 ^ 1000) (hn : n ≤ 10000) :
    Calls Try.prog 38 #[va, .int .i64 (n : Int)] w fun e w' => ∃ v', e = .returned v' ∧ Ls w' v' (A * 2 ^ n) ∧ Below w.heap.size w w' := by
  obtain ⟨i0, hi0, hz0, hz1, hz2⟩ := info_parts Try.info22
  obtain ⟨ka, hRa, hXa, hta⟩ := hA
  have bka := Ls.bound hta hAb
  obtain ⟨aa, capa, rfl, _, _⟩ := hRa.shapeR
  have HRa := hide hRa
  rw [ds_length] at HRa ⊢
  have HXa := hide hXa
  obtain ⟨q, hq⟩ : ∃ q, Hid (n / 32 = q) := ⟨_, rfl⟩
  obtain ⟨r, hr⟩ : ∃ r, Hid (n % 32 = r) := ⟨_, rfl⟩
  have hr32 : r < 32 := by have := unhide hr; omega
  have hq2 : q ≤ 313 := by have := unhide hq; omega
  obtain ⟨X, hX⟩ : ∃ X, Hid (A * 2 ^ n = X) := ⟨_, rfl⟩
  have hXd : Hid (X = A * 2 ^ r * 4294967296 ^ q) := by unfold Hid; rw [← unhide hX, ← unhide hr, ← unhide hq]; exact shl_digits A n
  rw [unhide hX]
  have nq : (n : Int) / 32 = (q : Int) := by have := unhide hq; omega
  have nr : (n : Int) % 32 = (r : Int) := by have := unhide hr; omega
  have nq2 : (n : Int).tdiv 32 = (q : Int) := by rw [Int.tdiv_eq_ediv_of_nonneg (by omega)]; exact nq
  have nr2 : (n : Int).tmod 32 = (r : Int) := by rw [Int.tmod_eq_emod_of_nonneg (by omega)]; exact nr
  clear hRa hXa hta hAb
  go_enter Try.func38, Try.ntmps38
  go_wp2
  go_loopg [5, 6] q (fun k l s wr => ∃ (j : Nat), Hid (j + k = q) ∧ s = .int .i64 (j : Int) ∧ Hid (Grows w l (ds X j) wr))
  case atStart => exact ⟨0, by unfold Hid; omega, rfl, Grows.start w _ (Below.refl _ _)⟩
  case round =>
    obtain ⟨j, hj, rfl, hG⟩ := hrel
    have hown := (unhide hG).1
    rw [ds_length] at hown
    have HO := hide hown
    clear hown
    by_cases hlt : j < q
    · have e3 := ds_succ X j
      rw [show dig X j = 0 from by rw [unhide hXd]; exact dig_shift0 _ q j hlt] at e3
      have HS : Hid (∀ v1 w1 o, World.ownsRow w1 w.heap.size 22 1 v1 (j + 1) ((ds X j).map Wd ++ [.int .u64 0]) → World.grownBy (wr.alloc o) w1 u5.ownBlock → Grows w v1 (ds X (j + 1)) w1) := fun v1 w1 o h1 h2 => by
        rw [e3]
        exact (unhide hG).step (b := 0) h1 (by rw [ds_length]) rfl h2
      clear e3
      have a1 : (j : Int) < (q : Int) := by omega
      go_wp2_with (first | (at_builtin; refine wpList_append_own_at _ rfl _ _ 35 rfl w.heap.size 22 i0 (.int .u64 0) 1 8 Try.underlying35 hi0 hz0 hz1 hz2 rfl (by decide) _ _ _ rfl ((unhide HO).alloc _) ⟨wr.heap.size, 0, none⟩ 1 1 [.int .u64 0] rfl rfl (cell_one_new _ _ _) (by simp [Value.oneCell']) (by unfold maxLen; omega) (by omega) (by have := (unhide hG).2.size; simp; omega) ?_))
      intro v' w1 hown' hgrow hnil hat
      have HN := hide (unhide HS _ _ _ hown' hgrow)
      clear hown' hgrow hnil hat HS
      go_wp2
      go_roundg (gk - 1)
      case measure => have := unhide hj; omega
      case rel => exact ⟨j + 1, by have := unhide hj; unfold Hid; omega, by go_num, HN⟩
    · obtain rfl : j = q := by have := unhide hj; omega
      clear HO hlt hj
      go_wp2
      go_loopg [5, 7, 8] ka (fun k l c s wr => ∃ (i : Nat), Hid (i + k = ka) ∧ s = .int .i64 (i : Int) ∧ c = .int .u64 (shc A r i : Nat) ∧ Hid (Grows w l (ds X (j + i)) wr))
      case atStart => exact ⟨0, by unfold Hid; omega, rfl, by rw [shc_zero]; rfl, hG⟩
      case round =>
        obtain ⟨i, hi, rfl, rfl, hG⟩ := hrel
        have hown := (unhide hG).1
        rw [ds_length] at hown
        have HO := hide hown
        clear hown
        by_cases hlt : i < ka
        · obtain ⟨b1, o1, rfl, hb1, cA0⟩ := (unhide HRa).at i (by rw [ds_length]; exact hlt)
          rw [ds_getD A ka i hlt] at cA0
          have cA : wr.cell? ⟨b1, o1 + i, none⟩ = some (.int .u64 (dig A i : Nat)) := ((unhide hG).2.cell (p := ⟨b1, o1 + i, none⟩) hb1).trans cA0
          clear cA0 hb1
          have a1 : (i : Int) < (ka : Int) := by omega
          have a0 : (0 : Int) ≤ (i : Int) := by omega
          have hda := dig_lt A i
          have hsl := shc_lt A r i
          have e1 := sh_dig A r i
          obtain ⟨s2, hs2⟩ : ∃ c, Hid (shc A r (i + 1) = c) := ⟨_, rfl⟩
          have e2 := sh_car A r i
          rw [unhide hs2] at e2
          have hpw : 2 ^ r ≤ 2147483648 := Nat.le_trans (Nat.pow_le_pow_right (by decide) (show r ≤ 31 by omega)) (by decide)
          have hmul : dig A i * 2 ^ r ≤ 4294967295 * 2147483648 := Nat.mul_le_mul (by omega) hpw
          have e3 := ds_succ X (j + i)
          rw [show dig X (j + i) = dig (A * 2 ^ r) i from by rw [unhide hXd]; exact dig_shift _ j i] at e3
          have w1 : IntKind.u64.wrap (((dig A i : Nat) : Int) * 2 ^ r) = ((dig A i * 2 ^ r : Nat) : Int) := by
            have : ((dig A i : Nat) : Int) * 2 ^ r = ((dig A i * 2 ^ r : Nat) : Int) := by rw [Int.natCast_mul, Int.natCast_pow]; rfl
            rw [this, IntKind.wrap_u64]; omega
          have w2 : IntKind.u64.wrap (((dig A i * 2 ^ r : Nat) : Int) + ((shc A r i : Nat) : Int)) = ((dig A i * 2 ^ r + shc A r i : Nat) : Int) := by
            rw [IntKind.wrap_u64]; omega
          have bb := band_32 (dig A i * 2 ^ r + shc A r i) (by omega)
          rw [e1] at bb
          have bs : ((dig A i * 2 ^ r + shc A r i : Nat) : Int) / 4294967296 = (s2 : Int) := by rw [← e2]; rfl
          have HS : Hid (∀ v1 w1 o, World.ownsRow w1 w.heap.size 22 1 v1 (j + i + 1) ((ds X (j + i)).map Wd ++ [.int .u64 (dig (A * 2 ^ r) i : Nat)]) → World.grownBy (wr.alloc o) w1 u5.ownBlock → Grows w v1 (ds X (j + (i + 1))) w1) := fun v1 w1 o h1 h2 => by
            rw [← Nat.add_assoc, e3]
            exact (unhide hG).step h1 (by rw [ds_length]) rfl h2
          generalize dig (A * 2 ^ r) i = dS at *
          generalize dig A i * 2 ^ r + shc A r i = Z at *
          generalize dig A i * 2 ^ r = P at *
          generalize dig A i = dA at *
          generalize shc A r i = sc at *
          have r1 : (r : Int) < 32 := by omega
          have r0 : (0 : Int) ≤ (r : Int) := by omega
          clear e1 e2 e3 hpw hmul hsl
          go_wp2_with (first | (at_builtin; refine wpList_append_own_at _ rfl _ _ 35 rfl w.heap.size 22 i0 (.int .u64 0) 1 8 Try.underlying35 hi0 hz0 hz1 hz2 rfl (by decide) _ _ _ rfl ((unhide HO).alloc _) ⟨wr.heap.size, 0, none⟩ 1 1 [.int .u64 (dS : Int)] rfl rfl (cell_one_new _ _ _) (by simp [Value.oneCell']) (by unfold maxLen; omega) (by omega) (by have := (unhide hG).2.size; simp; omega) ?_))
          intro v' w1 hown' hgrow hnil hat
          have HN := hide (unhide HS _ _ _ hown' hgrow)
          clear hown' hgrow hnil hat HS
          go_wp2
          go_roundg (gk - 1)
          case measure => have := unhide hi; omega
          case rel => exact ⟨i + 1, by have := unhide hi; unfold Hid; omega, by go_num, by rw [unhide hs2], HN⟩
        · obtain rfl : i = ka := by have := unhide hi; omega
          obtain ⟨x1, x2⟩ := shc_end (unhide HXa) (show r ≤ 32 by omega)
          have e3 := ds_succ X (j + i)
          rw [show dig X (j + i) = dig (A * 2 ^ r) i from by rw [unhide hXd]; exact dig_shift _ j i, ← x1] at e3
          have HX2 : Hid (X < 4294967296 ^ (j + i + 1)) := by
            unfold Hid
            rw [unhide hXd, Nat.mul_comm, Nat.add_assoc, Nat.pow_add]
            exact Nat.mul_lt_mul_of_pos_left x2 (Bpow_pos j)
          have HS : Hid (∀ v1 w1 o, World.ownsRow w1 w.heap.size 22 1 v1 (j + i + 1) ((ds X (j + i)).map Wd ++ [.int .u64 (shc A r i : Nat)]) → World.grownBy (wr.alloc o) w1 u5.ownBlock → Grows w v1 (ds X (j + i + 1)) w1) := fun v1 w1 o h1 h2 => by
            rw [e3]
            exact (unhide hG).step h1 (by rw [ds_length]) rfl h2
          generalize shc A r i = sc at *
          clear x1 x2 e3
          go_wp2_with (first | (at_builtin; refine wpList_append_own_at _ rfl _ _ 35 rfl w.heap.size 22 i0 (.int .u64 0) 1 8 Try.underlying35 hi0 hz0 hz1 hz2 rfl (by decide) _ _ _ rfl ((unhide HO).alloc _) ⟨wr.heap.size, 0, none⟩ 1 1 [.int .u64 (sc : Int)] rfl rfl (cell_one_new _ _ _) (by simp [Value.oneCell']) (by unfold maxLen; omega) (by omega) (by have := (unhide hG).2.size; simp; omega) ?_))
          intro v' w1 hown' hgrow hnil hat
          have HN := hide (unhide HS _ _ _ hown' hgrow)
          clear hown' hgrow hnil hat HS
          go_wp2_with fail
          refine (trim_any _ X (j + i + 1) _ (Rd.of_own (unhide HN).1) (unhide HX2) (by omega)).mono ?_
          rintro e w2 ⟨v2, rfl, hL, rfl⟩
          have HL := hide hL
          clear hL
          go_wp2
          go_ret
          exact ⟨_, rfl, unhide HL, (unhide HN).2⟩
end Go.Proofs.Ytnikbaibchgmnaa
