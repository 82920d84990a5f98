/-
  The padded bytes, by the document.
-/
import Derived.Test.YtlkcjimkgebeiaaDoorRBlock
import Derived.Test.YtlkcjimkgebeiaaDoorKit
namespace Go.Proofs.YtlkcjimkgebeiaaDoor
open Go.RowKit

/-- How many zeros. -/
def zeroN (n : Nat) : Nat := (119 - n % 64) % 64
/-- The padded bytes, all of them. -/
def padA (B : List Int) : List Int := B ++ [128] ++ List.replicate (zeroN B.length) 0 ++ lenB B.length 8
theorem lenB_get (n i : Nat) (h : i < 8) : (lenB n 8).getD i 0 = ((n * 8 / 2 ^ (56 - 8 * i) % 256 : Nat) : Int) := by
  match i, h with
  | 0, _ => rfl
  | 1, _ => rfl
  | 2, _ => rfl
  | 3, _ => rfl
  | 4, _ => rfl
  | 5, _ => rfl
  | 6, _ => rfl
  | 7, _ => rfl

set_option maxHeartbeats 3200000 in
set_option maxRecDepth 100000 in
theorem padded_ref (v : Value) (B : List Int) (w : World) (hR : Rd w v B) (hN : B.length + 72 ≤ 140737488355328) :
    Calls Tryd.prog 19 #[v] w fun e w' => ∃ v', e = .returned v' ∧ Grows w v' (padA B) w' := by
  obtain ⟨i0, hi0, hz0, hz1, hz2⟩ := info_parts Tryd.info5
  obtain ⟨a, cap, rfl⟩ := hR.shapeR
  have HR := hide hR
  obtain ⟨N, hNN⟩ : ∃ N, Hid (B.length = N) := ⟨_, rfl⟩
  rw [unhide hNN] at hN HR ⊢
  clear hR
  go_enter Tryd.func19, Tryd.ntmps19
  go_wp2
  go_loopg [3, 4] N (fun k l s wr => ∃ (j : Nat), Hid (j + k = N) ∧ s = .int .i64 (j : Int) ∧ Hid (Grows w l (B.take j) wr))
  case atStart => exact ⟨0, by unfold Hid; omega, rfl, by exact ⟨World.ownsRow_nil _ _ _ _, Below.refl _ _⟩⟩
  case round =>
    obtain ⟨j, hj, rfl, hG⟩ := hrel
    by_cases hlt : j < N
    · obtain ⟨cb, co, rfl, hcb, hc⟩ := (unhide HR).at j (by rw [unhide hNN]; exact hlt)
      have hcell : wr.cell? ⟨cb, co + j, none⟩ = some (.int .u8 (B.getD j 0)) := ((unhide hG).2.cell (p := ⟨cb, co + j, none⟩) hcb).trans hc
      have htk := hide (take_getD0 B j (by rw [unhide hNN]; exact hlt))
      have hlen : (B.take j).length = j := by rw [List.length_take, unhide hNN]; omega
      have hown := (unhide hG).1
      rw [hlen] at hown
      have HO := hide hown
      have hlen := hide hlen
      generalize B.getD j 0 = b at *
      have i1 : (0 : Int) ≤ (j : Int) := by omega
      have i2 : (j : Int) < (N : Int) := by omega
      clear hc hown
      go_wp2_with (first | (at_builtin; refine wpList_append_own_at _ rfl _ _ 22 rfl w.heap.size 5 i0 (.int .u8 0) 1 1 Tryd.underlying22 hi0 hz0 hz1 hz2 rfl (by decide) _ _ _ rfl ((unhide HO).alloc _) ⟨wr.heap.size, 0, none⟩ 1 1 [.int .u8 b] rfl rfl (cell_one_new _ _ _) (by simp [Value.oneCell']) (by unfold maxLen; omega) (by omega) (by have := (unhide hG).2.size; simp; omega) ?_))
      intro v' w1 hown' hgrow hnil hat
      have HN : Hid (Grows w v' (B.take (j + 1)) w1) := hide (by
        rw [unhide htk]
        exact (unhide hG).step hown' (by rw [unhide hlen]) (by rw [List.map_take]) hgrow)
      clear hown' hgrow hnil hat
      go_wp2
      go_roundg (gk - 1)
      case measure => have := unhide hj; omega
      case rel => exact ⟨j + 1, by have := unhide hj; unfold Hid; omega, by go_num, HN⟩
    · have hjN : j = N := by have := unhide hj; omega
      subst hjN
      have HG : Hid (Grows w u3 B wr) := by
        have h := unhide hG
        rw [List.take_of_length_le (by rw [unhide hNN]; exact Nat.le_refl _)] at h
        exact h
      clear hG
      have hG := HG
      have hown := (unhide hG).1
      rw [unhide hNN] at hown
      have HO := hide hown
      clear hown
      go_wp2_with (first | (at_builtin; refine wpList_append_own_at _ rfl _ _ 22 rfl w.heap.size 5 i0 (.int .u8 0) 1 1 Tryd.underlying22 hi0 hz0 hz1 hz2 rfl (by decide) _ _ _ rfl ((unhide HO).alloc _) ⟨wr.heap.size, 0, none⟩ 1 1 [.int .u8 128] rfl rfl (cell_one_new _ _ _) (by simp [Value.oneCell']) (by unfold maxLen; omega) (by omega) (by have := (unhide hG).2.size; simp; omega) ?_))
      intro v' w1 hown' hgrow hnil hat
      have HN : Hid (Grows w v' (B ++ [128]) w1) := hide ((unhide hG).step hown' (by rw [unhide hNN]) rfl hgrow)
      clear hown' hgrow hnil hat HO
      have hK : Hid (zeroN j < 64 ∧ (j + 1 + zeroN j) % 64 = 56 ∧ ∀ z, z < zeroN j → (j + 1 + z) % 64 ≠ 56) := by
        refine ⟨by unfold zeroN; omega, by unfold zeroN; omega, fun z hz => ?_⟩
        unfold zeroN at hz
        omega
      have hPA : Hid (padA B = B ++ [128] ++ List.replicate (zeroN j) 0 ++ lenB j 8) := by rw [Hid, padA, unhide hNN]
      obtain ⟨ZN, hZN⟩ : ∃ ZN, Hid (zeroN j = ZN) := ⟨_, rfl⟩
      rw [unhide hZN] at hK hPA
      go_wp2
      go_loopg [3] ZN (fun k l wr => ∃ (z : Nat), Hid (z + k = ZN) ∧ Hid (Grows w l (B ++ [128] ++ List.replicate z 0) wr))
      case atStart => exact ⟨0, by unfold Hid; omega, by simpa using HN⟩
      case round =>
        obtain ⟨z, hz, hG⟩ := hrel
        have hlen : (B ++ [128] ++ List.replicate z 0).length = j + 1 + z := by rw [List.length_append, List.length_append, List.length_replicate, unhide hNN]; rfl
        obtain ⟨g, cp, rfl, _, _, _, _, _⟩ := own_at (unhide hG).1 (by rw [hlen]; omega)
        have hown := (unhide hG).1
        rw [hlen] at hown ⊢
        have HO := hide hown
        have hlen := hide hlen
        clear hown
        have hk := unhide hK
        have hzz := unhide hz
        obtain ⟨L, hL⟩ : ∃ L, Hid (j + 1 + z = L) := ⟨_, rfl⟩
        rw [unhide hL] at HO ⊢
        by_cases hlt : z < ZN
        · have hq : L % 64 ≠ 56 := by rw [← unhide hL]; exact hk.2.2 z hlt
          have e1 : (L : Int).tmod 64 = ((L % 64 : Nat) : Int) := by rw [Int.tmod_eq_emod_of_nonneg (by omega)]; omega
          have e2 : ((L % 64 : Nat) : Int) ≠ 56 := by omega
          have e3 : (L : Int) % 64 = ((L % 64 : Nat) : Int) := by omega
          generalize ((L % 64 : Nat) : Int) = lm at *
          have hLb : L + 1 ≤ 140737488355328 := by have := unhide hL; omega
          clear hk hzz hq
          go_wp2_with (first | (at_builtin; refine wpList_append_own_at _ rfl _ _ 22 rfl w.heap.size 5 i0 (.int .u8 0) 1 1 Tryd.underlying22 hi0 hz0 hz1 hz2 rfl (by decide) _ _ _ rfl ((unhide HO).alloc _) ⟨wr.heap.size, 0, none⟩ 1 1 [.int .u8 0] rfl rfl (cell_one_new _ _ _) (by simp [Value.oneCell']) (by unfold maxLen; omega) (by omega) (by have := (unhide hG).2.size; simp; omega) ?_))
          intro v' w1 hown' hgrow hnil hat
          have HN2 : Hid (Grows w v' (B ++ [128] ++ List.replicate (z + 1) 0) w1) := hide (by
            rw [List.replicate_succ', ← List.append_assoc]
            exact (unhide hG).step hown' (by rw [unhide hlen, unhide hL]) (by simp [By]) hgrow)
          clear hown' hgrow hnil hat
          go_wp2
          go_roundg (gk - 1)
          case measure => have := unhide hz; omega
          case rel => exact ⟨z + 1, by have := unhide hz; unfold Hid; omega, HN2⟩
        · obtain rfl : z = ZN := by omega
          have hq : L % 64 = 56 := by rw [← unhide hL]; exact hk.2.1
          have e1 : (L : Int).tmod 64 = 56 := by rw [Int.tmod_eq_emod_of_nonneg (by omega)]; omega
          have e3 : (L : Int) % 64 = 56 := by omega
          have hLb : L + 8 ≤ 140737488355328 := by have := unhide hL; omega
          have e4 : (j : Int) * 8 < 18446744073709551616 := by omega
          have HG3 : Hid (Grows w (.slice (some ⟨g, 0, none⟩) L cp) (B ++ [128] ++ List.replicate z 0 ++ (lenB j 8).take 0) wr) := by
            have hg := hG
            rw [unhide hlen, unhide hL] at hg
            rw [List.take_zero, List.append_nil]; exact hg
          clear hk hzz hq hG HO
          go_wp2
          obtain ⟨Q, hQ⟩ : ∃ Q : List Int, Hid (B ++ [128] ++ List.replicate z 0 = Q) := ⟨B ++ [128] ++ List.replicate z 0, by rfl⟩
          rw [unhide hQ] at HG3 hPA hlen
          have hlb := hide (lenB_len j 8)
          have hlg := hide (lenB_get j)
          obtain ⟨LB, hLB⟩ : ∃ LB, Hid (lenB j 8 = LB) := ⟨_, rfl⟩
          rw [unhide hLB] at HG3 hPA hlb hlg
          go_loopg [3, 6] 8 (fun k l s wr => ∃ (i : Nat), Hid (i + k = 8) ∧ i ≤ 8 ∧ s = .int .i64 (i : Int) ∧ Hid (Grows w l (Q ++ LB.take i) wr))
          case atStart => exact ⟨0, by unfold Hid; omega, by omega, rfl, HG3⟩
          case round =>
            obtain ⟨i, hi, hi8, rfl, hG⟩ := hrel
            by_cases hlt : i < 8
            · have hl2 : (Q ++ LB.take i).length = L + i := by rw [List.length_append, unhide hlen, unhide hL, List.length_take, unhide hlb]; omega
              have hown := (unhide hG).1
              rw [hl2] at hown
              have HO := hide hown
              have hl2 := hide hl2
              have htk := hide (take_getD0 LB i (by rw [unhide hlb]; exact hlt))
              rw [unhide hlg i hlt] at htk
              have e5 : (56 : Int) - 8 * (i : Int) = ((56 - 8 * i : Nat) : Int) := by omega
              obtain ⟨sh, hsh⟩ : ∃ sh, Hid (56 - 8 * i = sh) := ⟨_, rfl⟩
              rw [unhide hsh] at e5 htk
              have hsl : sh < 64 := by have := unhide hsh; omega
              have e6 : ((j : Int) * 8 / 2 ^ sh) % 256 = ((j * 8 / 2 ^ sh % 256 : Nat) : Int) := by
                rw [Int.natCast_emod, Int.natCast_ediv, Int.natCast_pow, Int.natCast_mul]; rfl
              generalize ((j * 8 / 2 ^ sh % 256 : Nat) : Int) = y at *
              have i1 : (0 : Int) ≤ (i : Int) := by omega
              have i2 : (i : Int) < 8 := by omega
              clear hown
              go_wp2_with (first | (at_builtin; refine wpList_append_own_at _ rfl _ _ 22 rfl w.heap.size 5 i0 (.int .u8 0) 1 1 Tryd.underlying22 hi0 hz0 hz1 hz2 rfl (by decide) _ _ _ rfl ((unhide HO).alloc _) ⟨wr.heap.size, 0, none⟩ 1 1 [.int .u8 y] rfl rfl (cell_one_new _ _ _) (by simp [Value.oneCell']) (by unfold maxLen; omega) (by omega) (by have := (unhide hG).2.size; simp; omega) ?_))
              intro v' w1 hown' hgrow hnil hat
              have HN2 : Hid (Grows w v' (Q ++ LB.take (i + 1)) w1) := hide (by
                rw [unhide htk, ← List.append_assoc]
                exact (unhide hG).step hown' (by rw [unhide hl2]) (by simp) hgrow)
              clear hown' hgrow hnil hat
              go_wp2
              go_roundg (gk - 1)
              case measure => have := unhide hi; omega
              case rel => exact ⟨i + 1, by have := unhide hi; unfold Hid; omega, by omega, by go_num, HN2⟩
            · obtain rfl : i = 8 := by omega
              have HF : Hid (Grows w u3 (padA B) wr) := by
                have h := unhide hG
                rw [List.take_of_length_le (by rw [unhide hlb]; omega), ← unhide hPA] at h
                exact h
              clear hG
              go_wp2
              go_ret
              exact ⟨_, rfl, unhide HF⟩
end Go.Proofs.YtlkcjimkgebeiaaDoor
