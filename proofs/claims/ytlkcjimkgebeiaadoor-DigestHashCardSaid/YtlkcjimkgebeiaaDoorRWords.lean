/-
  The words of a block, by the document.
-/
import Derived.Test.YtlkcjimkgebeiaaDoorDSum
namespace Go.Proofs.YtlkcjimkgebeiaaDoor
open Go.RowKit

set_option maxHeartbeats 3200000 in
set_option maxRecDepth 100000 in
theorem rwords_any (vb : Value) (P b : List Int) (at0 : Nat) (hb : b = (P.drop at0).take 64) (hat : at0 + 64 ≤ P.length) (hPl : P.length ≤ 140737488355400) (w : World) (hR : Rd w vb P) (hBP : BOk P) :
    Calls Tryd.prog 29 #[vb, .int .i64 (at0 : Int)] w fun e w' => e = .returned (.agg (Ar .u32 (sp b 64))) ∧ Below w.heap.size w w' := by
  have hz := hide Tryd.zero63
  obtain ⟨a, cap, rfl⟩ := hR.shapeR
  obtain ⟨cb, co, rfl, hcb, _⟩ := hR.at 0 (by omega)
  have hbg : Hid (∀ i, i < 64 → b.getD i 0 = P.getD (at0 + i) 0) := fun i hi => by
    rw [hb, List.getD, List.getD, List.getElem?_take, if_pos hi, List.getElem?_drop]
  have hBd : Hid (∀ i, i < P.length → 0 ≤ P.getD i 0 ∧ P.getD i 0 < 256) := fun i hi => hBP _ (by rw [List.getD_eq_getElem?_getD, List.getElem?_eq_getElem hi]; exact List.getElem_mem _)
  have HR := hide hR
  have HAT := hide hat
  have H1 : Hid (Seg ((w.alloc (.cells (Ar .u32 z64) 63)).alloc (.cells (Ar .u32 z64) 63)) w.heap.size 0 .u32 z64) := (Seg.fresh w 63 .u32 z64).alloc _
  have H2 : Hid (Seg ((w.alloc (.cells (Ar .u32 z64) 63)).alloc (.cells (Ar .u32 z64) 63)) (w.heap.size + 1) 0 .u32 z64) := by
    have := Seg.fresh (w.alloc (.cells (Ar .u32 z64) 63)) 63 .u32 z64
    simpa [Hid] using this
  have HW : Hid (Below w.heap.size w ((w.alloc (.cells (Ar .u32 z64) 63)).alloc (.cells (Ar .u32 z64) 63))) := ((Below.refl _ _).alloc (Nat.le_refl _) _).alloc (by simp) _
  obtain ⟨L, hL⟩ : ∃ L, Hid (P.length = L) := ⟨_, rfl⟩
  rw [unhide hL] at HR HAT hBd hPl ⊢
  clear hb hat hR hBP
  go_enter Tryd.func29, Tryd.ntmps29
  go_wp2_with (refine wpList_alloc_ar rfl 63 rfl (Ar .u32 z64) 64 (unhide hz) ?_)
  go_loopg [6] 16 (fun k s wr => ∃ (j : Nat) (xs : List Int), Hid (j + k = 16) ∧ j ≤ 16 ∧ s = .int .i64 (j : Int) ∧ Hid (xs.length = 64 ∧ xs.take j = sp b j) ∧ Hid (Seg wr w.heap.size 0 .u32 z64 ∧ Seg wr (w.heap.size + 1) 0 .u32 xs) ∧ Hid (Below w.heap.size w wr))
  case atStart => exact ⟨0, z64, by unfold Hid; omega, by omega, rfl, ⟨rfl, rfl⟩, ⟨unhide H1, unhide H2⟩, HW⟩
  case round =>
    obtain ⟨j, xs, hj, hj16, rfl, hxs, hG, hW⟩ := hrel
    by_cases hlt : j < 16
    · have hc : ∀ i, i < 4 → wr.cell? ⟨cb, co + (at0 + 4 * j + i), none⟩ = some (.int .u8 (P.getD (at0 + 4 * j + i) 0)) := fun i hi => by
        obtain ⟨b', o', e, _, h'⟩ := (unhide HR).at (at0 + 4 * j + i) (by have := unhide HAT; rw [unhide hL]; omega)
        cases e
        exact ((unhide hW).cell (p := ⟨cb, co + (at0 + 4 * j + i), none⟩) hcb).trans h'
      have hc0 := hc 0 (by omega)
      have hc1 := hc 1 (by omega)
      have hc2 := hc 2 (by omega)
      have hc3 := hc 3 (by omega)
      have hd0 := (unhide hG).2.cell j (by rw [(unhide hxs).1]; omega)
      have hf0 := (unhide hG).2.frz j (by rw [(unhide hxs).1]; omega)
      rw [Nat.zero_add] at hd0 hf0
      have hbd : ∀ i, i < 4 → 0 ≤ P.getD (at0 + 4 * j + i) 0 ∧ P.getD (at0 + 4 * j + i) 0 < 256 := fun i hi => unhide hBd _ (by have := unhide HAT; omega)
      have d0 := hbd 0 (by omega)
      have d1 := hbd 1 (by omega)
      have d2 := hbd 2 (by omega)
      have d3 := hbd 3 (by omega)
      have hsp : Hid (sp b (j + 1) = sp b j ++ [w4 (P.getD (at0 + 4 * j + 0) 0) (P.getD (at0 + 4 * j + 1) 0) (P.getD (at0 + 4 * j + 2) 0) (P.getD (at0 + 4 * j + 3) 0)]) := by
        rw [Hid, sp_low b j hlt, unhide hbg (4 * j) (by omega), unhide hbg (4 * j + 1) (by omega), unhide hbg (4 * j + 2) (by omega), unhide hbg (4 * j + 3) (by omega)]
        rfl
      clear hbd hc
      obtain ⟨q, hq⟩ : ∃ q, Hid (at0 + 4 * j = q) := ⟨_, rfl⟩
      rw [unhide hq] at hc0 hc1 hc2 hc3 d0 d1 d2 d3 hsp
      rw [Nat.add_zero] at hc0 d0 hsp
      have e0 : (at0 : Int) + 4 * (j : Int) = (q : Int) := by have := unhide hq; omega
      have hq1 : (q : Int) + 3 < (L : Int) := by have := unhide hq; have := unhide HAT; omega
      have hq2 : (q : Int) + 2 < (L : Int) := by omega
      have hq3 : (q : Int) + 1 < (L : Int) := by omega
      have hq4 : (q : Int) < (L : Int) := by omega
      generalize P.getD q 0 = b0 at *
      generalize P.getD (q + 1) 0 = b1 at *
      generalize P.getD (q + 2) 0 = b2 at *
      generalize P.getD (q + 3) 0 = b3 at *
      generalize xs.getD j 0 = o1 at *
      obtain ⟨l0, u0⟩ := d0
      obtain ⟨l1, u1⟩ := d1
      obtain ⟨l2, u2⟩ := d2
      obtain ⟨l3, u3⟩ := d3
      have i1 : (0 : Int) ≤ (j : Int) := by omega
      have i2 : (j : Int) < 16 := by omega
      have i3 : (at0 : Int) < 140737488355401 := by have := unhide HAT; omega
      go_wp2
      go_region
      all_goals go_wp2
      all_goals
        go_roundg (gk - 1)
        case measure => have := unhide hj; omega
        case rel =>
          have h1 := (unhide hG).2.set j (by rw [(unhide hxs).1]; omega) (w4 b0 b1 b2 b3)
          rw [Nat.zero_add] at h1
          exact ⟨j + 1, xs.set j (w4 b0 b1 b2 b3), by have := unhide hj; unfold Hid; omega, by omega, by go_num, ⟨by rw [List.length_set]; exact (unhide hxs).1, by rw [unhide hsp]; exact take_set2 xs j (by rw [(unhide hxs).1]; omega) _ _ (unhide hxs).2⟩,
            ⟨((unhide hG).1.other _ _ (.inl (by simp))).drew, h1.drew⟩, ((unhide hW).setCell (p := ⟨w.heap.size + 1, j, none⟩) (by simp) _).drew⟩
    · obtain rfl : j = 16 := by omega
      have hxs0 := hxs
      have hG0 := hG
      have hW0 := hW
      clear hxs hG hW
      go_wp2
      go_loopg [8] 48 (fun k s wr => ∃ (i : Nat) (xs : List Int), Hid (i + k = 48) ∧ i ≤ 48 ∧ s = .int .i64 ((i : Int) + 16) ∧ Hid (xs.length = 64 ∧ xs.take (i + 16) = sp b (i + 16)) ∧ Hid (Seg wr (w.heap.size) 0 .u32 z64 ∧ Seg wr (w.heap.size + 1) 0 .u32 xs) ∧ Hid (Below w.heap.size w wr))
      case atStart => exact ⟨0, xs, by unfold Hid; omega, by omega, rfl, unhide hxs0, ⟨(unhide hG0).1, (unhide hG0).2⟩, hW0⟩
      case round =>
        obtain ⟨i, xs, hj, hj16, rfl, hxs, hG, hW⟩ := hrel
        by_cases hlt : i < 48
        · have hca := (unhide hG).2.cell i (by rw [(unhide hxs).1]; omega)
          have hcb := (unhide hG).2.cell (i + 1) (by rw [(unhide hxs).1]; omega)
          have hcc := (unhide hG).2.cell (i + 9) (by rw [(unhide hxs).1]; omega)
          have hcd := (unhide hG).2.cell (i + 14) (by rw [(unhide hxs).1]; omega)
          have hd0 := (unhide hG).2.cell (i + 16) (by rw [(unhide hxs).1]; omega)
          have hf0 := (unhide hG).2.frz (i + 16) (by rw [(unhide hxs).1]; omega)
          rw [Nat.zero_add] at hca hcb hcc hcd hd0 hf0
          have hsp : Hid (sp b (i + 16 + 1) = sp b (i + 16) ++ [nx (xs.getD i 0) (xs.getD (i + 1) 0) (xs.getD (i + 9) 0) (xs.getD (i + 14) 0)]) := by
            rw [Hid, sp_high, ← (unhide hxs).2, take_getD xs _ i (by omega), take_getD xs _ (i + 1) (by omega), take_getD xs _ (i + 9) (by omega), take_getD xs _ (i + 14) (by omega)]
          generalize xs.getD i 0 = a at *
          generalize xs.getD (i + 1) 0 = b1 at *
          generalize xs.getD (i + 9) 0 = c at *
          generalize xs.getD (i + 14) 0 = d at *
          generalize xs.getD (i + 16) 0 = o1 at *
          have hnx : Hid (nx a b1 c d = (bits .xor .u32 (bits .xor .u32 (rot d 17) (rot d 19)) (d / 1024) + c + bits .xor .u32 (bits .xor .u32 (rot b1 7) (rot b1 18)) (b1 / 8) + a) % 4294967296) := rfl
          have e1 : (i : Int) + 16 - 15 = ((i + 1 : Nat) : Int) := by omega
          have e2 : (i : Int) + 16 - 2 = ((i + 14 : Nat) : Int) := by omega
          have e3 : (i : Int) + 16 - 7 = ((i + 9 : Nat) : Int) := by omega
          have e4 : (i : Int) + 16 - 16 = (i : Int) := by omega
          have i1 : (0 : Int) ≤ (i : Int) := by omega
          have i2 : (i : Int) < 48 := by omega
          have i3 : (i : Int) + 16 < 64 := by omega
          go_wp2_with fail
          refine (rotr_7 _ _).mono ?_
          rintro e w' ⟨rfl, hww⟩
          have hww := hww.symm
          subst hww
          go_wp2_with fail
          refine (rotr_18 _ _).mono ?_
          rintro e w' ⟨rfl, hww⟩
          have hww := hww.symm
          subst hww
          go_wp2_with fail
          refine (rotr_17 _ _).mono ?_
          rintro e w' ⟨rfl, hww⟩
          have hww := hww.symm
          subst hww
          go_wp2_with fail
          refine (rotr_19 _ _).mono ?_
          rintro e w' ⟨rfl, hww⟩
          have hww := hww.symm
          subst hww
          go_wp2
          generalize bits .xor .u32 (bits .xor .u32 (rot b1 7) (rot b1 18)) (b1 / 8) = s0 at *
          generalize bits .xor .u32 (bits .xor .u32 (rot d 17) (rot d 19)) (d / 1024) = s1 at *
          have hG2 : Hid (Seg (wr) (w.heap.size) 0 .u32 z64 ∧ Seg (wr) (w.heap.size + 1) 0 .u32 xs) := ⟨(unhide hG).1.keepB (rfl), (unhide hG).2.keepB (rfl)⟩
          have hW2 : Hid (Below w.heap.size w (wr)) := unhide hW
          have hca2 : (wr).cell? ⟨w.heap.size + 1, i, none⟩ = some (.int .u32 a) := by simpa using hca
          have hcc2 : (wr).cell? ⟨w.heap.size + 1, i + 9, none⟩ = some (.int .u32 c) := by simpa using hcc
          have hd2 : (wr).cell? ⟨w.heap.size + 1, i + 16, none⟩ = some (.int .u32 o1) := by simpa using hd0
          have hf2 : (wr).frozen? ⟨w.heap.size + 1, i + 16, none⟩ = false := by simpa using hf0
          clear hca hcb hcc hcd hd0 hf0 hG hW
          go_region
          all_goals go_wp2
          all_goals
            go_roundg (gk - 1)
            case measure => have := unhide hj; omega
            case rel =>
              rw [← unhide hnx]
              have h1 := (unhide hG2).2.set (i + 16) (by rw [(unhide hxs).1]; omega) (nx a b1 c d)
              rw [Nat.zero_add] at h1
              exact ⟨i + 1, xs.set (i + 16) (nx a b1 c d), by have := unhide hj; unfold Hid; omega, by omega, by go_num, ⟨by rw [List.length_set]; exact (unhide hxs).1, by rw [show i + 1 + 16 = i + 16 + 1 by omega, unhide hsp]; exact take_set2 xs (i + 16) (by rw [(unhide hxs).1]; omega) _ _ (unhide hxs).2⟩,
                ⟨((unhide hG2).1.other _ _ (.inl (by simp))).drew, h1.drew⟩, ((unhide hW2).setCell (p := ⟨w.heap.size + 1, i + 16, none⟩) (by simp) _).drew⟩
        · obtain rfl : i = 48 := by omega
          have e : xs = sp b 64 := by
            have := (unhide hxs).2
            rwa [List.take_of_length_le (by rw [(unhide hxs).1]; omega)] at this
          have HE := hide e
          have HL := hide (unhide hxs).1
          clear e hxs
          go_wp2_with (first | (refine wpList_load_ar rfl 63 _ rfl (w.heap.size + 1) 0 rfl .u32 xs _ 64 (unhide hG).2 (unhide HL) Tryd.underlying63 rfl Tryd.info63 ?_) | (refine wpList_store_ar rfl 63 _ _ rfl (w.heap.size) 0 rfl .u32 xs 64 rfl (unhide HL) (by have := (unhide hG).1.2; rwa [z64_len] at this) Tryd.info63 ?_))
          have hs := Seg.stored (k := .u32) xs (by have := (unhide hG).1.2; rw [unhide HL]; rwa [z64_len] at this)
          refine bodyPost_ret (v := .agg (Ar .u32 xs)) ?_ rfl ⟨by rw [unhide HE], ?_⟩
          · rw [results_cell_one rfl]
            have hld := run_loadVar_ar (P := Tryd.prog) _ (w.heap.size) 0 63 .u32 xs _ 64 hs (unhide HL) Tryd.underlying63 rfl Tryd.info63
            exact hld
          · have F := Fr.setCells (S := fun _ => False) (a := w) (w.heap.size) (.inl (Nat.le_refl _)) (xs.map (Value.int .u32)) 0 (Fr.of_below (unhide hW))
            exact F.below (Nat.le_refl _) (by simp)
end Go.Proofs.YtlkcjimkgebeiaaDoor
