/-
  The words of a block.
-/
import Derived.Test.YtlkcjimkgebeiaaDoorRot
namespace Go.Proofs.YtlkcjimkgebeiaaDoor
open Go.RowKit

theorem Tryd.info49 : (Tryd.prog.info? 49).map (·.size) = some 64 := by kernel_rfl
theorem Tryd.info63 : (Tryd.prog.info? 63).map (·.size) = some 64 := by kernel_rfl
def z64 : List Int := List.replicate 64 0
theorem z64_len : z64.length = 64 := rfl
theorem Tryd.zero63 : (Tryd.prog.info? 63).map (fun i => (i.zero, i.size)) = some (some (.agg (Ar .u32 z64)), 64) := by kernel_rfl

/-- A word of four bytes, the highest first. -/
def w4 (b0 b1 b2 b3 : Int) : Int := bits .or .u32 (bits .or .u32 (bits .or .u32 (b0 * 16777216) (b1 * 65536)) (b2 * 256)) b3
/-- The next word. -/
def nx (a b c d : Int) : Int := (bits .xor .u32 (bits .xor .u32 (rot d 17) (rot d 19)) (d / 1024) + c + bits .xor .u32 (bits .xor .u32 (rot b 7) (rot b 18)) (b / 8) + a) % 4294967296
/-- The first words. -/
def sp (b : List Int) : Nat → List Int
  | 0 => []
  | n + 1 => sp b n ++ [if n < 16 then w4 (b.getD (4 * n) 0) (b.getD (4 * n + 1) 0) (b.getD (4 * n + 2) 0) (b.getD (4 * n + 3) 0) else nx ((sp b n).getD (n - 16) 0) ((sp b n).getD (n - 15) 0) ((sp b n).getD (n - 7) 0) ((sp b n).getD (n - 2) 0)]
theorem sp_low (b : List Int) (n : Nat) (h : n < 16) : sp b (n + 1) = sp b n ++ [w4 (b.getD (4 * n) 0) (b.getD (4 * n + 1) 0) (b.getD (4 * n + 2) 0) (b.getD (4 * n + 3) 0)] := by rw [sp, if_pos h]
theorem sp_high (b : List Int) (i : Nat) : sp b (i + 16 + 1) = sp b (i + 16) ++ [nx ((sp b (i + 16)).getD i 0) ((sp b (i + 16)).getD (i + 1) 0) ((sp b (i + 16)).getD (i + 9) 0) ((sp b (i + 16)).getD (i + 14) 0)] := by
  rw [sp, if_neg (by omega), show i + 16 - 16 = i by omega, show i + 16 - 15 = i + 1 by omega, show i + 16 - 7 = i + 9 by omega, show i + 16 - 2 = i + 14 by omega]
theorem take_getD (xs : List Int) (n i : Nat) (h : i < n) : (xs.take n).getD i 0 = xs.getD i 0 := by simp [List.getD, h]
theorem take_set2 (xs : List Int) (n : Nat) (h : n < xs.length) (L : List Int) (y : Int) (e : xs.take n = L) : (xs.set n y).take (n + 1) = L ++ [y] := by
  rw [take_getD0 (xs.set n y) n (by simpa using h), set_length_take xs n n (Nat.le_refl _), e]
  simp [List.getD, h]
theorem sp_len (b : List Int) : ∀ n, (sp b n).length = n
  | 0 => rfl
  | n + 1 => by rw [sp, List.length_append, sp_len b n]; rfl

set_option maxHeartbeats 3200000 in
set_option maxRecDepth 100000 in
theorem spread_any (b : List Int) (hb : b.length = 64) (hB : BOk b) (w : World) :
    Calls Tryd.prog 32 #[.agg (Ar .u8 b)] w fun e w' => e = .returned (.agg (Ar .u32 (sp b 64))) ∧ Below w.heap.size w w' := by
  have hz := hide Tryd.zero63
  have HX := hide hb
  have HB := hide hB
  have H0 : Hid (Seg (((w.alloc (.cells (Ar .u8 b) 49)).alloc (.cells (Ar .u32 z64) 63)).alloc (.cells (Ar .u32 z64) 63)) w.heap.size 0 .u8 b) := ((Seg.fresh w 49 .u8 b).alloc _).alloc _
  have H1 : Hid (Seg (((w.alloc (.cells (Ar .u8 b) 49)).alloc (.cells (Ar .u32 z64) 63)).alloc (.cells (Ar .u32 z64) 63)) (w.heap.size + 1) 0 .u32 z64) := by
    have := (Seg.fresh (w.alloc (.cells (Ar .u8 b) 49)) 63 .u32 z64).alloc (.cells (Ar .u32 z64) 63)
    simpa [Hid] using this
  have H2 : Hid (Seg (((w.alloc (.cells (Ar .u8 b) 49)).alloc (.cells (Ar .u32 z64) 63)).alloc (.cells (Ar .u32 z64) 63)) (w.heap.size + 1 + 1) 0 .u32 z64) := by
    have := Seg.fresh ((w.alloc (.cells (Ar .u8 b) 49)).alloc (.cells (Ar .u32 z64) 63)) 63 .u32 z64
    simpa [Hid] using this
  have HW : Hid (Below w.heap.size w (((w.alloc (.cells (Ar .u8 b) 49)).alloc (.cells (Ar .u32 z64) 63)).alloc (.cells (Ar .u32 z64) 63))) := (((Below.refl _ _).alloc (Nat.le_refl _) _).alloc (by simp) _).alloc (by simp; omega) _
  clear hb hB
  go_enter Tryd.func32, Tryd.ntmps32
  go_wp2_with (refine wpList_alloc_ar rfl 63 rfl (Ar .u32 z64) 64 (unhide hz) ?_)
  go_loopg [10] 16 (fun k s wr => ∃ (j : Nat) (xs : List Int), Hid (j + k = 16) ∧ j ≤ 16 ∧ s = .int .i64 (j : Int) ∧ Hid (xs.length = 64 ∧ xs.take j = sp b j) ∧ Hid (Seg wr w.heap.size 0 .u8 b ∧ Seg wr (w.heap.size + 1) 0 .u32 z64 ∧ Seg wr (w.heap.size + 1 + 1) 0 .u32 xs) ∧ Hid (Below w.heap.size w wr))
  case atStart => exact ⟨0, z64, by unfold Hid; omega, by omega, rfl, ⟨rfl, rfl⟩, ⟨unhide H0, unhide H1, unhide H2⟩, HW⟩
  case round =>
    obtain ⟨j, xs, hj, hj16, rfl, hxs, hG, hW⟩ := hrel
    by_cases hlt : j < 16
    · have hc0 := (unhide hG).1.cell (4 * j) (by rw [unhide HX]; omega)
      have hc1 := (unhide hG).1.cell (4 * j + 1) (by rw [unhide HX]; omega)
      have hc2 := (unhide hG).1.cell (4 * j + 2) (by rw [unhide HX]; omega)
      have hc3 := (unhide hG).1.cell (4 * j + 3) (by rw [unhide HX]; omega)
      have hd0 := (unhide hG).2.2.cell j (by rw [(unhide hxs).1]; omega)
      have hf0 := (unhide hG).2.2.frz j (by rw [(unhide hxs).1]; omega)
      rw [Nat.zero_add] at hc0 hc1 hc2 hc3 hd0 hf0
      have hbd : ∀ i, i < 64 → 0 ≤ b.getD i 0 ∧ b.getD i 0 < 256 := fun i hi => unhide HB _ (by rw [List.getD_eq_getElem?_getD, List.getElem?_eq_getElem (by rw [unhide HX]; exact hi)]; exact List.getElem_mem _)
      have d0 := hbd (4 * j) (by omega)
      have d1 := hbd (4 * j + 1) (by omega)
      have d2 := hbd (4 * j + 2) (by omega)
      have d3 := hbd (4 * j + 3) (by omega)
      have hsp : Hid (sp b (j + 1) = sp b j ++ [w4 (b.getD (4 * j) 0) (b.getD (4 * j + 1) 0) (b.getD (4 * j + 2) 0) (b.getD (4 * j + 3) 0)]) := sp_low b j hlt
      clear hbd
      generalize b.getD (4 * j) 0 = b0 at *
      generalize b.getD (4 * j + 1) 0 = b1 at *
      generalize b.getD (4 * j + 2) 0 = b2 at *
      generalize b.getD (4 * j + 3) 0 = b3 at *
      generalize xs.getD j 0 = o1 at *
      obtain ⟨l0, u0⟩ := d0
      obtain ⟨l1, u1⟩ := d1
      obtain ⟨l2, u2⟩ := d2
      obtain ⟨l3, u3⟩ := d3
      have i1 : (0 : Int) ≤ (j : Int) := by omega
      have i2 : (j : Int) < 16 := by omega
      go_wp2
      go_region
      all_goals go_wp2
      all_goals
        go_roundg (gk - 1)
        case measure => have := unhide hj; omega
        case rel =>
          have h1 := (unhide hG).2.2.set j (by rw [(unhide hxs).1]; omega) (w4 b0 b1 b2 b3)
          rw [Nat.zero_add] at h1
          exact ⟨j + 1, xs.set j (w4 b0 b1 b2 b3), by have := unhide hj; unfold Hid; omega, by omega, by go_num, ⟨by rw [List.length_set]; exact (unhide hxs).1, by rw [unhide hsp]; exact take_set2 xs j (by rw [(unhide hxs).1]; omega) _ _ (unhide hxs).2⟩,
            ⟨((unhide hG).1.other _ _ (.inl (by simp; omega))).drew, ((unhide hG).2.1.other _ _ (.inl (by simp))).drew, h1.drew⟩, ((unhide hW).setCell (p := ⟨w.heap.size + 1 + 1, j, none⟩) (by simp; omega) _).drew⟩
    · obtain rfl : j = 16 := by omega
      have hxs0 := hxs
      have hG0 := hG
      have hW0 := hW
      clear hxs hG hW
      go_wp2
      go_loopg [5] 48 (fun k s wr => ∃ (i : Nat) (xs : List Int), Hid (i + k = 48) ∧ i ≤ 48 ∧ s = .int .i64 ((i : Int) + 16) ∧ Hid (xs.length = 64 ∧ xs.take (i + 16) = sp b (i + 16)) ∧ Hid (Seg wr (w.heap.size + 1) 0 .u32 z64 ∧ Seg wr (w.heap.size + 1 + 1) 0 .u32 xs) ∧ Hid (Below w.heap.size w wr))
      case atStart => exact ⟨0, xs, by unfold Hid; omega, by omega, rfl, unhide hxs0, ⟨(unhide hG0).2.1, (unhide hG0).2.2⟩, hW0⟩
      case round =>
        obtain ⟨i, xs, hj, hj16, rfl, hxs, hG, hW⟩ := hrel
        by_cases hlt : i < 48
        · have hca := (unhide hG).2.cell i (by rw [(unhide hxs).1]; omega)
          have hcb := (unhide hG).2.cell (i + 1) (by rw [(unhide hxs).1]; omega)
          have hcc := (unhide hG).2.cell (i + 9) (by rw [(unhide hxs).1]; omega)
          have hcd := (unhide hG).2.cell (i + 14) (by rw [(unhide hxs).1]; omega)
          have hd0 := (unhide hG).2.cell (i + 16) (by rw [(unhide hxs).1]; omega)
          have hf0 := (unhide hG).2.frz (i + 16) (by rw [(unhide hxs).1]; omega)
          rw [Nat.zero_add] at hca hcb hcc hcd hd0 hf0
          have hsp : Hid (sp b (i + 16 + 1) = sp b (i + 16) ++ [nx (xs.getD i 0) (xs.getD (i + 1) 0) (xs.getD (i + 9) 0) (xs.getD (i + 14) 0)]) := by
            rw [Hid, sp_high, ← (unhide hxs).2, take_getD xs _ i (by omega), take_getD xs _ (i + 1) (by omega), take_getD xs _ (i + 9) (by omega), take_getD xs _ (i + 14) (by omega)]
          generalize xs.getD i 0 = a at *
          generalize xs.getD (i + 1) 0 = b1 at *
          generalize xs.getD (i + 9) 0 = c at *
          generalize xs.getD (i + 14) 0 = d at *
          generalize xs.getD (i + 16) 0 = o1 at *
          have hnx : Hid (nx a b1 c d = (bits .xor .u32 (bits .xor .u32 (rot d 17) (rot d 19)) (d / 1024) + c + bits .xor .u32 (bits .xor .u32 (rot b1 7) (rot b1 18)) (b1 / 8) + a) % 4294967296) := rfl
          have e1 : (i : Int) + 16 - 15 = ((i + 1 : Nat) : Int) := by omega
          have e2 : (i : Int) + 16 - 2 = ((i + 14 : Nat) : Int) := by omega
          have e3 : (i : Int) + 16 - 7 = ((i + 9 : Nat) : Int) := by omega
          have e4 : (i : Int) + 16 - 16 = (i : Int) := by omega
          have i1 : (0 : Int) ≤ (i : Int) := by omega
          have i2 : (i : Int) < 48 := by omega
          have i3 : (i : Int) + 16 < 64 := by omega
          go_wp2
          go_quiet (fail)
          go_wp2_with fail
          refine (turn_7 _ _).mono ?_
          rintro e w' ⟨rfl, hww⟩
          subst hww
          go_wp2_with fail
          refine (turn_18 _ _).mono ?_
          rintro e w' ⟨rfl, hww⟩
          subst hww
          go_wp2_with fail
          refine (turn_17 _ _).mono ?_
          rintro e w' ⟨rfl, hww⟩
          subst hww
          go_wp2_with fail
          refine (turn_19 _ _).mono ?_
          rintro e w' ⟨rfl, hww⟩
          subst hww
          go_wp2
          generalize bits .xor .u32 (bits .xor .u32 (rot b1 7) (rot b1 18)) (b1 / 8) = s0 at *
          generalize bits .xor .u32 (bits .xor .u32 (rot d 17) (rot d 19)) (d / 1024) = s1 at *
          have hG2 : Hid (Seg (wr.drewN nq) (w.heap.size + 1) 0 .u32 z64 ∧ Seg (wr.drewN nq) (w.heap.size + 1 + 1) 0 .u32 xs) := ⟨(unhide hG).1.keepB (by rw [drewN_heap]), (unhide hG).2.keepB (by rw [drewN_heap])⟩
          have hW2 : Hid (Below w.heap.size w (wr.drewN nq)) := below_drewN (unhide hW) nq
          have hca2 : (wr.drewN nq).cell? ⟨w.heap.size + 1 + 1, i, none⟩ = some (.int .u32 a) := by simpa using hca
          have hcc2 : (wr.drewN nq).cell? ⟨w.heap.size + 1 + 1, i + 9, none⟩ = some (.int .u32 c) := by simpa using hcc
          have hd2 : (wr.drewN nq).cell? ⟨w.heap.size + 1 + 1, i + 16, none⟩ = some (.int .u32 o1) := by simpa using hd0
          have hf2 : (wr.drewN nq).frozen? ⟨w.heap.size + 1 + 1, i + 16, none⟩ = false := by simpa using hf0
          clear hca hcb hcc hcd hd0 hf0 hG hW
          generalize wr.drewN nq = wq at *
          go_region
          all_goals go_wp2
          all_goals
            go_roundg (gk - 1)
            case measure => have := unhide hj; omega
            case rel =>
              rw [← unhide hnx]
              have h1 := (unhide hG2).2.set (i + 16) (by rw [(unhide hxs).1]; omega) (nx a b1 c d)
              rw [Nat.zero_add] at h1
              exact ⟨i + 1, xs.set (i + 16) (nx a b1 c d), by have := unhide hj; unfold Hid; omega, by omega, by go_num, ⟨by rw [List.length_set]; exact (unhide hxs).1, by rw [show i + 1 + 16 = i + 16 + 1 by omega, unhide hsp]; exact take_set2 xs (i + 16) (by rw [(unhide hxs).1]; omega) _ _ (unhide hxs).2⟩,
                ⟨((unhide hG2).1.other _ _ (.inl (by simp))).drew, h1.drew⟩, ((unhide hW2).setCell (p := ⟨w.heap.size + 1 + 1, i + 16, none⟩) (by simp; omega) _).drew⟩
        · obtain rfl : i = 48 := by omega
          have e : xs = sp b 64 := by
            have := (unhide hxs).2
            rwa [List.take_of_length_le (by rw [(unhide hxs).1]; omega)] at this
          have HE := hide e
          have HL := hide (unhide hxs).1
          clear e hxs
          go_wp2_with (first | (refine wpList_load_ar rfl 63 _ rfl (w.heap.size + 1 + 1) 0 rfl .u32 xs _ 64 (unhide hG).2 (unhide HL) Tryd.underlying63 rfl Tryd.info63 ?_) | (refine wpList_store_ar rfl 63 _ _ rfl (w.heap.size + 1) 0 rfl .u32 xs 64 rfl (unhide HL) (by have := (unhide hG).1.2; rwa [z64_len] at this) Tryd.info63 ?_))
          have hs := Seg.stored (k := .u32) xs (by have := (unhide hG).1.2; rw [unhide HL]; rwa [z64_len] at this)
          refine bodyPost_ret (v := .agg (Ar .u32 xs)) ?_ rfl ⟨by rw [unhide HE], ?_⟩
          · rw [results_cell_one rfl]
            have hld := run_loadVar_ar (P := Tryd.prog) _ (w.heap.size + 1) 0 63 .u32 xs _ 64 hs (unhide HL) Tryd.underlying63 rfl Tryd.info63
            exact hld
          · have F := Fr.setCells (S := fun _ => False) (a := w) (w.heap.size + 1) (.inl (by omega)) (xs.map (Value.int .u32)) 0 (Fr.of_below (unhide hW))
            exact F.below (Nat.le_refl _) (by simp)
end Go.Proofs.YtlkcjimkgebeiaaDoor
