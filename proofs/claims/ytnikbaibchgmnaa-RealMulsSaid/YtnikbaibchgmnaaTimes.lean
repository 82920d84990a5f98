/-
  Times.
-/
import Derived.Test.YtnikbaibchgmnaaSums
import Derived.Test.YtnikbaibchgmnaaCmp
import Derived.Test.YtnikbaibchgmnaaTMath
import Derived.Laws.OwnMore
namespace Go.Proofs.Ytnikbaibchgmnaa
open Go.RowKit

theorem Grows.drewN {w0 w : World} {l : Value} {xs : List Nat} (h : Grows w0 l xs w) (n : Nat) : Grows w0 l xs (w.drewN n) := ⟨h.1, ⟨h.2.os, h.2.tape, h.2.output, h.2.size, h.2.block⟩⟩
theorem Grows.at {w0 w : World} {a : Option Addr} {k cap : Nat} {xs : List Nat} (h : Grows w0 (.slice a k cap) xs w) (i : Nat) (hi : i < xs.length) : ∃ g, a = some ⟨g, 0, none⟩ ∧ k = xs.length ∧ w.cell? ⟨g, i, none⟩ = some (.int .u64 (xs.getD i 0 : Nat)) ∧ w.frozen? ⟨g, i, none⟩ = false := by
  have h1 := h.1
  have hcs : ∀ g, (Value.slice a k cap).ownBlock = some g → _ := fun g => @World.ownsRow.cells w w0.heap.size 22 1 (.slice a k cap) xs.length (xs.map Wd) h1 g
  rcases h1.2 with ⟨e, h0⟩ | ⟨g, cap', cur, e, hb, hg, hn, hc, hs, ht⟩
  · omega
  · simp only [Value.slice.injEq] at e
    obtain ⟨rfl, rfl, rfl⟩ := e
    have := hcs g rfl i (Wd (xs.getD i 0)) (by simp [List.getD, hi])
    rw [addr_add0] at this
    exact ⟨g, rfl, rfl, this, h1.frozenAt i⟩
theorem Grows.stored {w0 w : World} {g k cap : Nat} {xs : List Nat} (h : Grows w0 (.slice (some ⟨g, 0, none⟩) k cap) xs w) (hk : k = xs.length) (i x : Nat) : Grows w0 (.slice (some ⟨g, 0, none⟩) k cap) (xs.set i x) (w.setCell ⟨g, i, none⟩ (.int .u64 (x : Int))) := by
  subst hk
  obtain ⟨h1, h2⟩ := h.1.stored i (.int .u64 (x : Int))
  refine ⟨?_, below_grown h.2 h2 (fun k hk => ?_)⟩
  · rw [List.length_set, List.map_set]; exact h1
  · cases hk; exact (h.1.lt g rfl).1
theorem mul_bound {x y : Nat} (hx : x < 4294967296) (hy : y < 4294967296) : x * y ≤ 18446744065119617025 := by
  have := Nat.mul_le_mul (show x ≤ 4294967295 by omega) (show y ≤ 4294967295 by omega)
  omega
set_option maxRecDepth 100000 in
set_option maxHeartbeats 3200000 in
theorem times_any (va vb : Value) (A C : Nat) (w : World) (hA : Ls w va A) (hC : Ls w vb C) (hAb : A < 4294967296 ^ 1000) (hCb : C < 4294967296 ^ 1000) :
    Calls Try.prog 35 #[va, vb] w fun e w' => ∃ v', e = .returned v' ∧ Ls w' v' (A * C) ∧ Below w.heap.size w w' := by
  obtain ⟨i0, hi0, hz0, hz1, hz2⟩ := info_parts Try.info22
  obtain ⟨ka, hRa, hXa, hta⟩ := hA
  obtain ⟨kb, hRb, hXb, htb⟩ := hC
  have bka := Ls.bound hta hAb
  have bkb := Ls.bound htb hCb
  obtain ⟨aa, capa, rfl, _, _⟩ := hRa.shapeR
  obtain ⟨ab, capb, rfl, _, _⟩ := hRb.shapeR
  have HRa := hide hRa
  have HRb := hide hRb
  rw [ds_length] at HRa HRb ⊢
  rw [ds_length]
  have HXa := hide hXa
  have HXb := hide hXb
  obtain ⟨K, hK⟩ : ∃ K, ka + kb = K := ⟨_, rfl⟩
  have hKi : (ka : Int) + (kb : Int) = (K : Int) := by omega
  have hK1 : K ≤ 2000 := by omega
  clear hRa hRb hXa hXb hta htb hAb hCb
  go_enter Try.func35, Try.ntmps35
  go_wp2
  go_loopg [5, 6] K (fun k l s wr => ∃ (j : Nat), Hid (j + k = K) ∧ s = .int .i64 (j : Int) ∧ Hid (Grows w l (ds 0 j) wr))
  case atStart => exact ⟨0, by unfold Hid; omega, rfl, Grows.start w _ (Below.refl _ _)⟩
  case round =>
    obtain ⟨j, hj, rfl, hG⟩ := hrel
    have hown := (unhide hG).1
    rw [ds_length] at hown
    have HO := hide hown
    clear hown
    by_cases hlt : j < K
    · have e3 := ds_succ 0 j
      rw [show dig 0 j = 0 from by simp [dig]] at e3
      have HS : Hid (∀ v1 w1 o, World.ownsRow w1 w.heap.size 22 1 v1 (j + 1) ((ds 0 j).map Wd ++ [.int .u64 0]) → World.grownBy (wr.alloc o) w1 u5.ownBlock → Grows w v1 (ds 0 (j + 1)) w1) := fun v1 w1 o h1 h2 => by
        rw [e3]
        exact (unhide hG).step (b := 0) h1 (by rw [ds_length]) rfl h2
      clear e3
      have a1 : (j : Int) < (K : Int) := by omega
      go_wp2_with (first | (at_builtin; refine wpList_append_own_at _ rfl _ _ 35 rfl w.heap.size 22 i0 (.int .u64 0) 1 8 Try.underlying35 hi0 hz0 hz1 hz2 rfl (by decide) _ _ _ rfl ((unhide HO).alloc _) ⟨wr.heap.size, 0, none⟩ 1 1 [.int .u64 0] rfl rfl (cell_one_new _ _ _) (by simp [Value.oneCell']) (by unfold maxLen; omega) (by omega) (by have := (unhide hG).2.size; simp; omega) ?_))
      intro v' w1 hown' hgrow hnil hat
      have HN := hide (unhide HS _ _ _ hown' hgrow)
      clear hown' hgrow hnil hat HS
      go_wp2
      go_roundg (gk - 1)
      case measure => have := unhide hj; omega
      case rel => exact ⟨j + 1, by have := unhide hj; unfold Hid; omega, by go_num, HN⟩
    · obtain rfl : j = K := by have := unhide hj; omega
      have a1 : decide ((j : Int) < (j : Int)) = false := by rw [decide_eq_false_iff_not]; omega
      have hG0 : Hid (Grows w u5 (ds (A % 4294967296 ^ 0 * C) j) wr) := by unfold Hid; rw [Nat.pow_zero, Nat.mod_one, Nat.zero_mul]; exact unhide hG
      obtain ⟨al, lk, lc, hshape⟩ : ∃ a k c, u5 = .slice a k c := by
        rcases (unhide hG).1.2 with ⟨e, _⟩ | ⟨g, cap', cur, e, _⟩
        · exact ⟨_, _, _, e⟩
        · exact ⟨_, _, _, e⟩
      subst hshape
      clear HO hlt hj hG
      go_wp2
      go_loopg [7] ka (fun k s wr => ∃ (i : Nat), Hid (i + k = ka) ∧ s = .int .i64 (i : Int) ∧ Hid (Grows w (.slice al lk lc) (ds (A % 4294967296 ^ i * C) j) wr))
      case atStart => exact ⟨0, by unfold Hid; omega, rfl, hG0⟩
      case round =>
        obtain ⟨i, hi, rfl, hG⟩ := hrel
        by_cases hlt : i < ka
        · obtain ⟨ba, oa, rfl, hba, cA0⟩ := (unhide HRa).at i (by rw [ds_length]; exact hlt)
          rw [ds_getD A ka i hlt] at cA0
          have HcA := hide (And.intro hba cA0)
          obtain ⟨g, hg1, hg2, _, _⟩ := (unhide hG).at 0 (by rw [ds_length]; omega)
          rw [ds_length] at hg2
          subst hg1 hg2
          obtain ⟨P, hP⟩ : ∃ P, Hid (A % 4294967296 ^ i * C = P) := ⟨_, rfl⟩
          obtain ⟨dA, hdA⟩ : ∃ d, Hid (dig A i = d) := ⟨_, rfl⟩
          have hdl : dA < 4294967296 := by rw [← unhide hdA]; exact dig_lt A i
          obtain ⟨P2, hP2⟩ : ∃ P2, Hid (P + dA * C * 4294967296 ^ i = P2) := ⟨_, rfl⟩
          have hstep : Hid (A % 4294967296 ^ (i + 1) * C = P2) := by unfold Hid; rw [prod_step, unhide hP, unhide hdA, unhide hP2]
          have hPl : Hid (P < 4294967296 ^ (i + kb)) := by unfold Hid; rw [← unhide hP]; exact prod_lt (unhide HXb)
          obtain ⟨me1, me2⟩ := mca_end (i := i) (unhide HXb) (unhide hPl) hdl
          rw [unhide hP2] at me1 me2
          have HE := hide (And.intro me1 me2)
          have hM0 : Hid (Grows w (.slice (some ⟨g, 0, none⟩) lk lc) (mix P2 P i lk) wr) := by
            unfold Hid
            rw [mix_start P2 P i lk (fun u hu => by rw [← unhide hP2]; exact prod_low hu), ← unhide hP]
            exact unhide hG
          rw [unhide hdA] at HcA
          clear me1 me2 hG cA0 hba
          have ai : (i : Int) < (ka : Int) := by omega
          have ai0 : (0 : Int) ≤ (i : Int) := by omega
          obtain ⟨GK, hGK⟩ : ∃ G, Hid (G = gk) := ⟨gk, rfl⟩
          have hi2 : Hid (i + GK = ka) := by have h1 := unhide hi; have h2 := unhide hGK; unfold Hid; omega
          clear hi
          go_wp2
          go_loopg [8, 9] kb (fun k c s wr => ∃ (t : Nat), Hid (t + k = kb) ∧ s = .int .i64 (t : Int) ∧ c = .int .u64 (mca P dA C i t : Nat) ∧ Hid (Grows w (.slice (some ⟨g, 0, none⟩) lk lc) (mix P2 P (i + t) lk) wr))
          case atStart => exact ⟨0, by unfold Hid; omega, rfl, by rw [mca_zero]; rfl, hM0⟩
          case round =>
            obtain ⟨t, ht, rfl, rfl, hG⟩ := hrel
            by_cases hlt2 : t < kb
            · obtain ⟨bb, ob, rfl, hbb, cB0⟩ := (unhide HRb).at t (by rw [ds_length]; exact hlt2)
              rw [ds_getD C kb t hlt2] at cB0
              have cB : wr.cell? ⟨bb, ob + t, none⟩ = some (.int .u64 (dig C t : Nat)) := ((unhide hG).2.cell (p := ⟨bb, ob + t, none⟩) hbb).trans cB0
              have cA : wr.cell? ⟨ba, oa + i, none⟩ = some (.int .u64 (dA : Nat)) := ((unhide hG).2.cell (p := ⟨ba, oa + i, none⟩) (unhide HcA).1).trans (unhide HcA).2
              obtain ⟨g', hg1, hkk, cL, fL⟩ := (unhide hG).at (i + t) (by rw [mix_length]; omega)
              clear hkk
              simp only [Option.some.injEq, Addr.mk.injEq] at hg1
              obtain ⟨rfl, _⟩ := hg1
              rw [mix_getD _ _ _ _ _ (by omega), if_neg (by omega)] at cL
              have hdc := dig_lt C t
              have hdp := dig_lt P (i + t)
              have hml := mca_lt (P := P) (C := C) (i := i) (j := t) hdl
              have hmb := mul_bound hdl hdc
              have e1 := mca_dig P dA C i t
              rw [unhide hP2] at e1
              obtain ⟨c2, hc2⟩ : ∃ c, Hid (mca P dA C i (t + 1) = c) := ⟨_, rfl⟩
              have e2 := mca_car P dA C i t
              rw [unhide hc2] at e2
              have HSt : Hid (∀ n, Grows w (.slice (some ⟨g, 0, none⟩) lk lc) (mix P2 P (i + (t + 1)) lk) ((wr.drewN n).setCell ⟨g, i + t, none⟩ (.int .u64 (dig P2 (i + t) : Nat)))) := fun n => by
                have := ((unhide hG).drewN n).stored (by rw [mix_length]) (i + t) (dig P2 (i + t))
                rw [mix_set] at this
                exact this
              have bbn := band_32 (dA * dig C t + dig P (i + t) + mca P dA C i t) (by omega)
              rw [e1] at bbn
              generalize dig P2 (i + t) = dS at *
              generalize mca P dA C i t = ca at *
              generalize dig P (i + t) = dP at *
              have hm1 : (dA : Int) * ((dig C t : Nat) : Int) = ((dA * dig C t : Nat) : Int) := by rw [Int.natCast_mul]
              generalize dA * dig C t = M at *
              generalize dig C t = dC at *
              have bb2 : bits .and .u64 ((M : Int) + dP + ca) 4294967295 = (dS : Int) := bbn
              have bs : ((M : Int) + dP + ca) / 4294967296 = (c2 : Int) := by omega
              have at0 : (0 : Int) ≤ (t : Int) := by omega
              have at1 : (t : Int) < (kb : Int) := by omega
              have at2 : (i : Int) + (t : Int) < (lk : Int) := by omega
              have mb : (M : Int) ≤ 18446744065119617025 := by omega
              clear bbn e1 e2 hmb cB0 hbb
              go_wp2
              go_quiet (fail)
              go_wp2
              go_roundg (gk - 1)
              case measure => have := unhide ht; omega
              case rel => exact ⟨t + 1, by have := unhide ht; unfold Hid; omega, by go_num, by rw [unhide hc2], unhide HSt _⟩
            · obtain rfl : t = kb := by have := unhide ht; omega
              obtain ⟨me1, me2⟩ := unhide HE
              obtain ⟨g', hg1, hkk, cL, fL⟩ := (unhide hG).at (i + t) (by rw [mix_length]; omega)
              clear hkk
              simp only [Option.some.injEq, Addr.mk.injEq] at hg1
              obtain ⟨rfl, _⟩ := hg1
              have HSt : Hid (Grows w (.slice (some ⟨g, 0, none⟩) lk lc) (ds (A % 4294967296 ^ (i + 1) * C) lk) (wr.setCell ⟨g, i + t, none⟩ (.int .u64 (mca P dA C i t : Nat)))) := by
                unfold Hid
                have := (unhide hG).stored (by rw [mix_length]) (i + t) (dig P2 (i + t))
                rw [mix_set, mix_end] at this
                · rw [me1, unhide hstep]; exact this
                · intro u hu1 hu2
                  rw [dig_big me2 hu1, dig_big (unhide hPl) (by omega)]
              generalize mca P dA C i t = ca at *
              generalize (mix P2 P (i + t) lk).getD (i + t) 0 = old at *
              have at2 : (i : Int) + (t : Int) < (lk : Int) := by omega
              have at0 : (0 : Int) ≤ (i : Int) + (t : Int) := by omega
              clear me1 me2 hG
              go_wp2
              go_roundg (GK - 1)
              case measure => have := unhide hi2; have := unhide hGK; omega
              case rel => exact ⟨i + 1, by have := unhide hi2; unfold Hid; omega, by go_num, HSt⟩
        · obtain rfl : i = ka := by have := unhide hi; omega
          have HG2 : Hid (Grows w (.slice al lk lc) (ds (A * C) j) wr) := by
            unfold Hid
            have := unhide hG
            rw [Nat.mod_eq_of_lt (unhide HXa)] at this
            exact this
          have HXX : Hid (A * C < 4294967296 ^ j) := by
            unfold Hid
            rw [← hK, Nat.pow_add]
            exact Nat.mul_lt_mul'' (unhide HXa) (unhide HXb)
          have aa1 : decide ((i : Int) < (i : Int)) = false := by rw [decide_eq_false_iff_not]; omega
          clear hG
          go_wp2_with fail
          refine (trim_any _ (A * C) j _ (Rd.of_own (unhide HG2).1) (unhide HXX) (by omega)).mono ?_
          rintro e w2 ⟨v2, rfl, hL, rfl⟩
          have HL := hide hL
          clear hL
          go_wp2
          go_ret
          exact ⟨_, rfl, unhide HL, (unhide HG2).2⟩
end Go.Proofs.Ytnikbaibchgmnaa
