/-
  The tail: the walk.
-/
import Derived.Test.YtlkcjimkgebeiaaDoorPad
namespace Go.Proofs.YtlkcjimkgebeiaaDoor
open Go.RowKit

set_option maxHeartbeats 1600000 in
set_option maxRecDepth 100000 in
theorem padded_lo (op r : List Int) (n : Nat) (ho : op.length = 64) (hr : op.take r.length = r) (hh : r.length < 56) (hn : n < 1152921504606846976) (w : World) :
    Calls Tryd.prog 23 #[.agg (Ar .u8 op), .int .i64 (r.length : Int), .int .u64 (n : Int)] w fun e w' => e = .returned (.agg (Ar .u8 (padT r n))) ∧ Below w.heap.size w w' := by
  have hz := hide Tryd.zero52
  have hb : bas r.length = 64 := if_pos hh
  have hpl := hide (pad0_len r (by omega))
  have hP0 : Hid (pad0 r = (z128.take 64 ++ r ++ z128.drop (64 + r.length)).set (64 + r.length) 128) := by rw [Hid, pad0, hb]
  have hPT : Hid (padT r n = (pad0 r).take 120 ++ lenB n 8) := rfl
  have hzl := z128_len
  have hspl : Hid ((z128.take 64 ++ r ++ z128.drop (64 + r.length)).length = 128) := by rw [Hid]; simp only [List.length_append, List.length_take, List.length_drop, hzl]; omega
  have htkr : Hid (r.take 64 = r) := List.take_of_length_le (by omega)
  have hmin : Hid (min r.length 64 = r.length) := by rw [Hid]; omega
  obtain ⟨H, hH⟩ : ∃ H, Hid (r.length = H) := ⟨_, rfl⟩
  have hHl : H < 64 := by have := unhide hH; omega
  have hH2 : H < 56 := by have := unhide hH; omega
  have H0 : Hid (Seg (((w.alloc (.cells (Ar .u8 op) 49)).alloc (.cells (Ar .u8 z128) 52)).alloc (.cells (Ar .u8 z128) 52)).drew w.heap.size 0 .u8 op) := (((Seg.fresh w 49 .u8 op).alloc _).alloc _).drew
  have H1 : Hid (Seg (((w.alloc (.cells (Ar .u8 op) 49)).alloc (.cells (Ar .u8 z128) 52)).alloc (.cells (Ar .u8 z128) 52)).drew (w.heap.size + 1) 0 .u8 z128) := by
    have := ((Seg.fresh (w.alloc (.cells (Ar .u8 op) 49)) 52 .u8 z128).alloc (.cells (Ar .u8 z128) 52)).drew
    simpa [Hid] using this
  have H2 : Hid (Seg (((w.alloc (.cells (Ar .u8 op) 49)).alloc (.cells (Ar .u8 z128) 52)).alloc (.cells (Ar .u8 z128) 52)).drew (w.heap.size + 1 + 1) 0 .u8 z128) := by
    have := (Seg.fresh ((w.alloc (.cells (Ar .u8 op) 49)).alloc (.cells (Ar .u8 z128) 52)) 52 .u8 z128).drew
    simpa [Hid] using this
  have HW : Hid (Fr (fun _ => False) w (((w.alloc (.cells (Ar .u8 op) 49)).alloc (.cells (Ar .u8 z128) 52)).alloc (.cells (Ar .u8 z128) 52)).drew) := ((((Fr.refl _ w).alloc _).alloc _).alloc _).drew
  have hRd : Hid (Rd (((w.alloc (.cells (Ar .u8 op) 49)).alloc (.cells (Ar .u8 z128) 52)).alloc (.cells (Ar .u8 z128) 52)).drew (.slice (some ⟨w.heap.size, 0, none⟩) H 64) r) := by
    have := (unhide H0).rd r.length 64 (by omega) (by omega) (by unfold maxLen; omega) (World.block_lt_of_cell? _ _ ((unhide H0).cell 0 (by omega)))
    rw [hr, unhide hH] at this
    exact this
  have HS : Hid (Seg ((((w.alloc (.cells (Ar .u8 op) 49)).alloc (.cells (Ar .u8 z128) 52)).alloc (.cells (Ar .u8 z128) 52)).drew.setCells (w.heap.size + 1 + 1) 64 (r.map (Value.int .u8))) (w.heap.size + 1 + 1) 0 .u8 (z128.take 64 ++ r ++ z128.drop (64 + r.length))) := by
    have := (unhide H2).splice 64 r (by rw [hzl]; omega)
    simp only [Nat.zero_add] at this
    exact this
  have HS1 : Hid (Seg ((((w.alloc (.cells (Ar .u8 op) 49)).alloc (.cells (Ar .u8 z128) 52)).alloc (.cells (Ar .u8 z128) 52)).drew.setCells (w.heap.size + 1 + 1) 64 (r.map (Value.int .u8))) (w.heap.size + 1) 0 .u8 z128) := (unhide H1).apart _ _ _ (.inl (by omega))
  have HT : Hid ((((w.alloc (.cells (Ar .u8 op) 49)).alloc (.cells (Ar .u8 z128) 52)).alloc (.cells (Ar .u8 z128) 52)).drew.there (w.heap.size + 1 + 1) 64 H) := fun j hj => by
    have := (unhide H2).2 (64 + j) (by rw [hzl]; omega)
    rw [Nat.zero_add] at this
    exact this
  have HF : Hid (Fr (fun _ => False) w ((((w.alloc (.cells (Ar .u8 op) 49)).alloc (.cells (Ar .u8 z128) 52)).alloc (.cells (Ar .u8 z128) 52)).drew.setCells (w.heap.size + 1 + 1) 64 (r.map (Value.int .u8)))) := Fr.setCells _ (.inl (by omega)) _ _ (unhide HW)
  rw [unhide hH] at hP0 hspl hmin HS ⊢
  clear ho hr hb hh 
  have i1 : (0 : Int) ≤ (H : Int) := by omega
  have i2 : (H : Int) < 64 := by omega
  have i4 : (H : Int) ≤ 64 := by omega
  have i5 : H ≤ 64 := by omega
  have i3 : (H : Int) + 1 ≤ 56 := by omega
  go_enter Tryd.func23, Tryd.ntmps23
  go_wp2_with (first | (refine wpList_alloc_ar rfl 52 rfl (Ar .u8 z128) 128 (unhide hz) ?_))
  go_region_law ((refine step_copy_ar rfl _ _ rfl (w.heap.size + 1 + 1) 64 64 64 (by rfl) (.slice (some ⟨w.heap.size, 0, none⟩) H 64) r (by rfl) (unhide hRd) (by rw [unhide hH, unhide hmin]; exact unhide HT) ?_; rw [unhide hH, unhide hmin, unhide htkr]))
  generalize (((w.alloc (.cells (Ar .u8 op) 49)).alloc (.cells (Ar .u8 z128) 52)).alloc (.cells (Ar .u8 z128) 52)).drew.setCells (w.heap.size + 1 + 1) 64 (r.map (Value.int .u8)) = w1 at *
  generalize z128.take 64 ++ r ++ z128.drop (64 + H) = T1 at *
  have hc1 := (unhide HS).cell (64 + H) (by rw [unhide hspl]; omega)
  have hf1 := (unhide HS).frz (64 + H) (by rw [unhide hspl]; omega)
  rw [Nat.zero_add] at hc1 hf1
  have HG : Hid (Seg (w1.setCell ⟨w.heap.size + 1 + 1, 64 + H, none⟩ (.int .u8 128)) (w.heap.size + 1 + 1) 0 .u8 (pad0 r)) := by
    have := (unhide HS).set (64 + H) (by rw [unhide hspl]; omega) 128
    rw [Nat.zero_add, ← unhide hP0] at this
    exact this
  have HG1 : Hid (Seg (w1.setCell ⟨w.heap.size + 1 + 1, 64 + H, none⟩ (.int .u8 128)) (w.heap.size + 1) 0 .u8 z128) := (unhide HS1).other _ _ (.inl (by simp))
  have HGF : Hid (Fr (fun _ => False) w (w1.setCell ⟨w.heap.size + 1 + 1, 64 + H, none⟩ (.int .u8 128))) := (unhide HF).setCell _ (.inl (by simp; omega)) _
  generalize T1.getD (64 + H) 0 = o0 at *
  go_wp2
  go_loopg [23] 8 (fun k s wr => ∃ (i : Nat), Hid (i + k = 8) ∧ i ≤ 8 ∧ s = .int .i64 (i : Int) ∧ Hid (Seg wr (w.heap.size + 1) 0 .u8 z128 ∧ Seg wr (w.heap.size + 1 + 1) 0 .u8 ((pad0 r).take (128 - i) ++ lenB n i) ∧ Fr (fun _ => False) w wr))
  case atStart => exact ⟨0, by unfold Hid; omega, by omega, rfl, unhide HG1, by rw [List.take_of_length_le (by rw [unhide hpl]; omega), lenB, List.append_nil]; exact unhide HG, unhide HGF⟩
  case round =>
    obtain ⟨i, hi, hi8, rfl, hGG⟩ := hrel
    by_cases hlt : i < 8
    · have hlen : ((pad0 r).take (128 - i) ++ lenB n i).length = 128 := by rw [List.length_append, List.length_take, unhide hpl, lenB_len]; omega
      have hcx := (unhide hGG).2.1.cell (127 - i) (by rw [hlen]; omega)
      have hfx := (unhide hGG).2.1.frz (127 - i) (by rw [hlen]; omega)
      have hnew := hide ((unhide hGG).2.1.set (127 - i) (by rw [hlen]; omega) (((n * 8 / 2 ^ (8 * i) % 256 : Nat) : Int)))
      rw [pad_step (pad0 r) n i (unhide hpl) hlt] at hnew
      rw [Nat.zero_add] at hcx hfx hnew
      generalize ((pad0 r).take (128 - i) ++ lenB n i).getD (127 - i) 0 = ox at *
      obtain ⟨q, hq⟩ : ∃ q, Hid (127 - i = q) := ⟨_, rfl⟩
      rw [unhide hq] at hcx hfx hnew
      have e1 : (63 : Int) - (i : Int) = ((q - 64 : Nat) : Int) := by have := unhide hq; omega
      have e2 : 64 + (q - 64) = q := by have := unhide hq; omega
      have e3 : (n : Int) * 8 < 18446744073709551616 := by omega
      have e4 : q - 64 < 64 := by have := unhide hq; omega
      have e5 : (((n : Int) * 8) / 2 ^ (8 * i)) % 256 = ((n * 8 / 2 ^ (8 * i) % 256 : Nat) : Int) := by
        rw [Int.natCast_emod, Int.natCast_ediv, Int.natCast_pow, Int.natCast_mul]; rfl
      generalize ((n * 8 / 2 ^ (8 * i) % 256 : Nat) : Int) = y at *
      have i6 : (i : Int) < 8 := by omega
      have i7 : (0 : Int) ≤ (i : Int) := by omega
      go_wp2
      go_roundg (gk - 1)
      case measure => have := unhide hi; omega
      case rel => exact ⟨i + 1, by have := unhide hi; unfold Hid; omega, by omega, by go_num, (unhide hGG).1.other _ _ (.inl (by simp)), unhide hnew, (unhide hGG).2.2.setCell _ (.inl (by simp; omega)) _⟩
    · obtain rfl : i = 8 := by omega
      have hS2 := (unhide hGG).2.1
      rw [show 128 - 8 = 120 from rfl, ← unhide hPT] at hS2
      have hln : Hid ((padT r n).length = 128) := by rw [Hid, unhide hPT, List.length_append, List.length_take, unhide hpl, lenB_len]; omega
      have HS2 := hide hS2
      have HT1 : Hid (wr.there (w.heap.size + 1) 0 128) := by have := (unhide hGG).1.2; rwa [hzl] at this
      have HFF := hide (unhide hGG).2.2
      clear hS2 hGG
      obtain ⟨ts, hts⟩ : ∃ ts, Hid (padT r n = ts) := ⟨_, rfl⟩
      rw [unhide hts] at hln HS2
      go_wp2_with (first | (refine wpList_load_ar rfl 52 _ rfl (w.heap.size + 1 + 1) 0 rfl .u8 ts _ 128 (unhide HS2) (unhide hln) Tryd.underlying52 rfl Tryd.info52 ?_) | (refine wpList_store_ar rfl 52 _ _ rfl (w.heap.size + 1) 0 rfl .u8 ts 128 rfl (unhide hln) (unhide HT1) Tryd.info52 ?_))
      have hs := Seg.stored (k := .u8) ts (by rw [unhide hln]; exact unhide HT1)
      refine bodyPost_ret (v := .agg (Ar .u8 ts)) ?_ rfl ⟨by rw [unhide hts], ?_⟩
      · rw [results_cell_one rfl]
        have hld := run_loadVar_ar (P := Tryd.prog) _ (w.heap.size + 1) 0 52 .u8 ts _ 128 hs (unhide hln) Tryd.underlying52 rfl Tryd.info52
        exact hld
      · have F := Fr.setCells (S := fun _ => False) (a := w) (w.heap.size + 1) (.inl (by omega)) (ts.map (Value.int .u8)) 0 (unhide HFF)
        exact F.below (Nat.le_refl _) (by simp)

set_option maxHeartbeats 1600000 in
set_option maxRecDepth 100000 in
theorem padded_hi (op r : List Int) (n : Nat) (ho : op.length = 64) (hr : op.take r.length = r) (hh : 56 ≤ r.length) (hh2 : r.length < 64) (hn : n < 1152921504606846976) (w : World) :
    Calls Tryd.prog 23 #[.agg (Ar .u8 op), .int .i64 (r.length : Int), .int .u64 (n : Int)] w fun e w' => e = .returned (.agg (Ar .u8 (padT r n))) ∧ Below w.heap.size w w' := by
  have hz := hide Tryd.zero52
  have hb : bas r.length = 0 := if_neg (by omega)
  have hpl := hide (pad0_len r (by omega))
  have hP0 : Hid (pad0 r = (z128.take 0 ++ r ++ z128.drop (r.length)).set (r.length) 128) := by rw [Hid, pad0, hb]; simp only [Nat.zero_add]
  have hPT : Hid (padT r n = (pad0 r).take 120 ++ lenB n 8) := rfl
  have hzl := z128_len
  have hspl : Hid ((z128.take 0 ++ r ++ z128.drop (r.length)).length = 128) := by rw [Hid]; simp only [List.length_append, List.length_take, List.length_drop, hzl]; omega
  have htkr : Hid (r.take 64 = r) := List.take_of_length_le (by omega)
  have hmin : Hid (min r.length 64 = r.length) := by rw [Hid]; omega
  obtain ⟨H, hH⟩ : ∃ H, Hid (r.length = H) := ⟨_, rfl⟩
  have hHl : H < 64 := by have := unhide hH; omega
  have hH2 : 56 ≤ H := by have := unhide hH; omega
  have H0 : Hid (Seg (((w.alloc (.cells (Ar .u8 op) 49)).alloc (.cells (Ar .u8 z128) 52)).alloc (.cells (Ar .u8 z128) 52)).drew w.heap.size 0 .u8 op) := (((Seg.fresh w 49 .u8 op).alloc _).alloc _).drew
  have H1 : Hid (Seg (((w.alloc (.cells (Ar .u8 op) 49)).alloc (.cells (Ar .u8 z128) 52)).alloc (.cells (Ar .u8 z128) 52)).drew (w.heap.size + 1) 0 .u8 z128) := by
    have := ((Seg.fresh (w.alloc (.cells (Ar .u8 op) 49)) 52 .u8 z128).alloc (.cells (Ar .u8 z128) 52)).drew
    simpa [Hid] using this
  have H2 : Hid (Seg (((w.alloc (.cells (Ar .u8 op) 49)).alloc (.cells (Ar .u8 z128) 52)).alloc (.cells (Ar .u8 z128) 52)).drew (w.heap.size + 1 + 1) 0 .u8 z128) := by
    have := (Seg.fresh ((w.alloc (.cells (Ar .u8 op) 49)).alloc (.cells (Ar .u8 z128) 52)) 52 .u8 z128).drew
    simpa [Hid] using this
  have HW : Hid (Fr (fun _ => False) w (((w.alloc (.cells (Ar .u8 op) 49)).alloc (.cells (Ar .u8 z128) 52)).alloc (.cells (Ar .u8 z128) 52)).drew) := ((((Fr.refl _ w).alloc _).alloc _).alloc _).drew
  have hRd : Hid (Rd (((w.alloc (.cells (Ar .u8 op) 49)).alloc (.cells (Ar .u8 z128) 52)).alloc (.cells (Ar .u8 z128) 52)).drew (.slice (some ⟨w.heap.size, 0, none⟩) H 64) r) := by
    have := (unhide H0).rd r.length 64 (by omega) (by omega) (by unfold maxLen; omega) (World.block_lt_of_cell? _ _ ((unhide H0).cell 0 (by omega)))
    rw [hr, unhide hH] at this
    exact this
  have HS : Hid (Seg ((((w.alloc (.cells (Ar .u8 op) 49)).alloc (.cells (Ar .u8 z128) 52)).alloc (.cells (Ar .u8 z128) 52)).drew.setCells (w.heap.size + 1 + 1) 0 (r.map (Value.int .u8))) (w.heap.size + 1 + 1) 0 .u8 (z128.take 0 ++ r ++ z128.drop (r.length))) := by
    have := (unhide H2).splice 0 r (by rw [hzl]; omega)
    simp only [Nat.zero_add] at this
    exact this
  have HS1 : Hid (Seg ((((w.alloc (.cells (Ar .u8 op) 49)).alloc (.cells (Ar .u8 z128) 52)).alloc (.cells (Ar .u8 z128) 52)).drew.setCells (w.heap.size + 1 + 1) 0 (r.map (Value.int .u8))) (w.heap.size + 1) 0 .u8 z128) := (unhide H1).apart _ _ _ (.inl (by omega))
  have HT : Hid ((((w.alloc (.cells (Ar .u8 op) 49)).alloc (.cells (Ar .u8 z128) 52)).alloc (.cells (Ar .u8 z128) 52)).drew.there (w.heap.size + 1 + 1) 0 H) := fun j hj => by
    have := (unhide H2).2 (0 + j) (by rw [hzl]; omega)
    rw [Nat.zero_add] at this
    exact this
  have HF : Hid (Fr (fun _ => False) w ((((w.alloc (.cells (Ar .u8 op) 49)).alloc (.cells (Ar .u8 z128) 52)).alloc (.cells (Ar .u8 z128) 52)).drew.setCells (w.heap.size + 1 + 1) 0 (r.map (Value.int .u8)))) := Fr.setCells _ (.inl (by omega)) _ _ (unhide HW)
  rw [unhide hH] at hP0 hspl hmin HS ⊢
  clear ho hr hb hh hh2
  have i1 : (0 : Int) ≤ (H : Int) := by omega
  have i2 : (H : Int) < 64 := by omega
  have i4 : (H : Int) ≤ 64 := by omega
  have i5 : H ≤ 64 := by omega
  have i3 : (56 : Int) < (H : Int) + 1 := by omega
  go_enter Tryd.func23, Tryd.ntmps23
  go_wp2_with (first | (refine wpList_alloc_ar rfl 52 rfl (Ar .u8 z128) 128 (unhide hz) ?_))
  go_region_law ((refine step_copy_ar rfl _ _ rfl (w.heap.size + 1 + 1) 0 64 64 (by rfl) (.slice (some ⟨w.heap.size, 0, none⟩) H 64) r (by rfl) (unhide hRd) (by rw [unhide hH, unhide hmin]; exact unhide HT) ?_; rw [unhide hH, unhide hmin, unhide htkr]))
  generalize (((w.alloc (.cells (Ar .u8 op) 49)).alloc (.cells (Ar .u8 z128) 52)).alloc (.cells (Ar .u8 z128) 52)).drew.setCells (w.heap.size + 1 + 1) 0 (r.map (Value.int .u8)) = w1 at *
  generalize z128.take 0 ++ r ++ z128.drop (H) = T1 at *
  have hc1 := (unhide HS).cell (H) (by rw [unhide hspl]; omega)
  have hf1 := (unhide HS).frz (H) (by rw [unhide hspl]; omega)
  rw [Nat.zero_add] at hc1 hf1
  have HG : Hid (Seg (w1.setCell ⟨w.heap.size + 1 + 1, H, none⟩ (.int .u8 128)) (w.heap.size + 1 + 1) 0 .u8 (pad0 r)) := by
    have := (unhide HS).set (H) (by rw [unhide hspl]; omega) 128
    rw [Nat.zero_add, ← unhide hP0] at this
    exact this
  have HG1 : Hid (Seg (w1.setCell ⟨w.heap.size + 1 + 1, H, none⟩ (.int .u8 128)) (w.heap.size + 1) 0 .u8 z128) := (unhide HS1).other _ _ (.inl (by simp))
  have HGF : Hid (Fr (fun _ => False) w (w1.setCell ⟨w.heap.size + 1 + 1, H, none⟩ (.int .u8 128))) := (unhide HF).setCell _ (.inl (by simp; omega)) _
  generalize T1.getD (H) 0 = o0 at *
  go_wp2
  go_loopg [23] 8 (fun k s wr => ∃ (i : Nat), Hid (i + k = 8) ∧ i ≤ 8 ∧ s = .int .i64 (i : Int) ∧ Hid (Seg wr (w.heap.size + 1) 0 .u8 z128 ∧ Seg wr (w.heap.size + 1 + 1) 0 .u8 ((pad0 r).take (128 - i) ++ lenB n i) ∧ Fr (fun _ => False) w wr))
  case atStart => exact ⟨0, by unfold Hid; omega, by omega, rfl, unhide HG1, by rw [List.take_of_length_le (by rw [unhide hpl]; omega), lenB, List.append_nil]; exact unhide HG, unhide HGF⟩
  case round =>
    obtain ⟨i, hi, hi8, rfl, hGG⟩ := hrel
    by_cases hlt : i < 8
    · have hlen : ((pad0 r).take (128 - i) ++ lenB n i).length = 128 := by rw [List.length_append, List.length_take, unhide hpl, lenB_len]; omega
      have hcx := (unhide hGG).2.1.cell (127 - i) (by rw [hlen]; omega)
      have hfx := (unhide hGG).2.1.frz (127 - i) (by rw [hlen]; omega)
      have hnew := hide ((unhide hGG).2.1.set (127 - i) (by rw [hlen]; omega) (((n * 8 / 2 ^ (8 * i) % 256 : Nat) : Int)))
      rw [pad_step (pad0 r) n i (unhide hpl) hlt] at hnew
      rw [Nat.zero_add] at hcx hfx hnew
      generalize ((pad0 r).take (128 - i) ++ lenB n i).getD (127 - i) 0 = ox at *
      obtain ⟨q, hq⟩ : ∃ q, Hid (127 - i = q) := ⟨_, rfl⟩
      rw [unhide hq] at hcx hfx hnew
      have e1 : (63 : Int) - (i : Int) = ((q - 64 : Nat) : Int) := by have := unhide hq; omega
      have e2 : 64 + (q - 64) = q := by have := unhide hq; omega
      have e3 : (n : Int) * 8 < 18446744073709551616 := by omega
      have e4 : q - 64 < 64 := by have := unhide hq; omega
      have e5 : (((n : Int) * 8) / 2 ^ (8 * i)) % 256 = ((n * 8 / 2 ^ (8 * i) % 256 : Nat) : Int) := by
        rw [Int.natCast_emod, Int.natCast_ediv, Int.natCast_pow, Int.natCast_mul]; rfl
      generalize ((n * 8 / 2 ^ (8 * i) % 256 : Nat) : Int) = y at *
      have i6 : (i : Int) < 8 := by omega
      have i7 : (0 : Int) ≤ (i : Int) := by omega
      go_wp2
      go_roundg (gk - 1)
      case measure => have := unhide hi; omega
      case rel => exact ⟨i + 1, by have := unhide hi; unfold Hid; omega, by omega, by go_num, (unhide hGG).1.other _ _ (.inl (by simp)), unhide hnew, (unhide hGG).2.2.setCell _ (.inl (by simp; omega)) _⟩
    · obtain rfl : i = 8 := by omega
      have hS2 := (unhide hGG).2.1
      rw [show 128 - 8 = 120 from rfl, ← unhide hPT] at hS2
      have hln : Hid ((padT r n).length = 128) := by rw [Hid, unhide hPT, List.length_append, List.length_take, unhide hpl, lenB_len]; omega
      have HS2 := hide hS2
      have HT1 : Hid (wr.there (w.heap.size + 1) 0 128) := by have := (unhide hGG).1.2; rwa [hzl] at this
      have HFF := hide (unhide hGG).2.2
      clear hS2 hGG
      obtain ⟨ts, hts⟩ : ∃ ts, Hid (padT r n = ts) := ⟨_, rfl⟩
      rw [unhide hts] at hln HS2
      go_wp2_with (first | (refine wpList_load_ar rfl 52 _ rfl (w.heap.size + 1 + 1) 0 rfl .u8 ts _ 128 (unhide HS2) (unhide hln) Tryd.underlying52 rfl Tryd.info52 ?_) | (refine wpList_store_ar rfl 52 _ _ rfl (w.heap.size + 1) 0 rfl .u8 ts 128 rfl (unhide hln) (unhide HT1) Tryd.info52 ?_))
      have hs := Seg.stored (k := .u8) ts (by rw [unhide hln]; exact unhide HT1)
      refine bodyPost_ret (v := .agg (Ar .u8 ts)) ?_ rfl ⟨by rw [unhide hts], ?_⟩
      · rw [results_cell_one rfl]
        have hld := run_loadVar_ar (P := Tryd.prog) _ (w.heap.size + 1) 0 52 .u8 ts _ 128 hs (unhide hln) Tryd.underlying52 rfl Tryd.info52
        exact hld
      · have F := Fr.setCells (S := fun _ => False) (a := w) (w.heap.size + 1) (.inl (by omega)) (ts.map (Value.int .u8)) 0 (unhide HFF)
        exact F.below (Nat.le_refl _) (by simp)
theorem padded_any (op r : List Int) (n : Nat) (ho : op.length = 64) (hr : op.take r.length = r) (hl : r.length < 64) (hn : n < 1152921504606846976) (w : World) :
    Calls Tryd.prog 23 #[.agg (Ar .u8 op), .int .i64 (r.length : Int), .int .u64 (n : Int)] w fun e w' => e = .returned (.agg (Ar .u8 (padT r n))) ∧ Below w.heap.size w w' := by
  by_cases h : r.length < 56
  · exact padded_lo op r n ho hr h hn w
  · exact padded_hi op r n ho hr (by omega) hl hn w
end Go.Proofs.YtlkcjimkgebeiaaDoor
