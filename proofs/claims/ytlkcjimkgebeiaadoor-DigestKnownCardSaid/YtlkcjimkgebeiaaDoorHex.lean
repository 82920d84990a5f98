/-
  Hex, the program's and the document's.
-/
import Derived.Test.YtlkcjimkgebeiaaDoorDSum
namespace Go.Proofs.YtlkcjimkgebeiaaDoor
open Go.RowKit

/-- A digit. -/
def hd (n : Int) : Int := if n < 10 then 48 + n else 87 + n
/-- The digits of bytes. -/
def hexB (x : List Int) : List Int := x.flatMap fun b => [hd (b / 16), hd (b % 16)]
theorem hexB_append (x y : List Int) : hexB (x ++ y) = hexB x ++ hexB y := by simp [hexB]
theorem hexB_length (x : List Int) : (hexB x).length = 2 * x.length := by
  induction x with
  | nil => rfl
  | cons b t ih => rw [show b :: t = [b] ++ t from rfl, hexB_append, List.length_append, ih, List.length_append]; simp [hexB]; omega
theorem hd_bd {n : Int} (h0 : 0 ≤ n) (h1 : n < 16) : 0 ≤ hd n ∧ hd n < 256 := by unfold hd; split <;> omega
theorem hexB_bok {x : List Int} (h : BOk x) : BOk (hexB x) := by
  intro b hb
  simp only [hexB, List.mem_flatMap] at hb
  obtain ⟨a, ha, hb⟩ := hb
  have := h a ha
  simp at hb
  rcases hb with rfl | rfl
  · exact hd_bd (by omega) (by omega)
  · exact hd_bd (by omega) (by omega)
/-- The digits as the program's text has them. -/
def digS : ByteArray := { data := #[48, 49, 50, 51, 52, 53, 54, 55, 56, 57, 97, 98, 99, 100, 101, 102] }

/-- An array's box. -/
theorem box_cell (w : World) (x : List Int) (t : TypeId) (j : Nat) (hj : j < x.length) : (w.alloc (.cells (Ar .u8 x) t)).cell? ⟨w.heap.size, j, none⟩ = some (.int .u8 (x.getD j 0)) := by
  have := (Seg.fresh w t .u8 x).cell j hj
  rwa [Nat.zero_add] at this

theorem digS_at (q : Nat) (h : q < 16) (h2 : q < ByteArray.size { data := #[48, 49, 50, 51, 52, 53, 54, 55, 56, 57, 97, 98, 99, 100, 101, 102] }) : (((({ data := #[48, 49, 50, 51, 52, 53, 54, 55, 56, 57, 97, 98, 99, 100, 101, 102] } : ByteArray)[q]'h2).toNat : Nat) : Int) = hd (q : Int) := by
  have : ∀ n : Fin 16, ((({ data := #[48, 49, 50, 51, 52, 53, 54, 55, 56, 57, 97, 98, 99, 100, 101, 102] } : ByteArray)[n.val]'n.isLt).toNat : Int) = hd (n.val : Int) := by decide
  exact this ⟨q, h⟩
theorem digS_get (q : Nat) (h : q < 16) : ((digS.data[q]?.getD 0).toNat : Int) = hd (q : Int) := by
  have : ∀ n : Fin 16, ((digS.data[n.val]?.getD 0).toNat : Int) = hd (n.val : Int) := by decide
  exact this ⟨q, h⟩

theorem Tryd.zero48 : (Tryd.prog.info? 48).map (fun i => (i.zero, i.size)) = some (some (.agg (Ar .u8 z64)), 64) := by kernel_rfl
theorem take_two (xs : List Int) (n : Nat) (y1 y2 : Int) (h : n + 2 ≤ xs.length) : ((xs.set n y1).set (n + 1) y2).take (n + 2) = xs.take n ++ [y1, y2] := by
  apply List.ext_getElem?
  intro i
  rw [List.getElem?_take, List.getElem?_append, List.length_take]
  have hm : min n xs.length = n := by omega
  rw [hm]
  by_cases h1 : i < n
  · have a1 : i < n + 2 := by omega
    have a2 : ¬ n + 1 = i := by omega
    have a3 : ¬ n = i := by omega
    simp [h1, a1, a2, a3]
  · by_cases h2 : i = n
    · subst h2
      have a1 : i < xs.length := by omega
      simp [a1]
    · by_cases h3 : i = n + 1
      · subst h3
        have a1 : n + 1 < xs.length := by omega
        simp [a1]
        intro hh; omega
      · have a1 : ¬ i < n + 2 := by omega
        have a2 : 2 ≤ i - n := by omega
        simp [h1, a1, a2]

set_option maxHeartbeats 1600000 in
set_option maxRecDepth 100000 in
theorem hex_any (x : List Int) (hx : x.length = 32) (hB : BOk x) (w : World) :
    Calls Tryd.prog 28 #[.agg (Ar .u8 x)] w fun e w' => e = .returned (.string (toStr (hexB x))) ∧ Below w.heap.size w w' := by
  have HS := hide (Seg.fresh w 24 .u8 x)
  have hz48 := hide Tryd.zero48
  have HX := hide hx
  have HB := hide hB
  clear hx hB
  go_enter Tryd.func28, Tryd.ntmps28
  go_wp2_with (first | (refine wpList_alloc_ar rfl 48 rfl (Ar .u8 z64) 64 (unhide hz48) ?_) | (refine wpList_load_ar rfl 24 _ rfl w.heap.size 0 rfl .u8 x _ 32 ((unhide HS).alloc _) (unhide HX) Tryd.underlying24 rfl Tryd.info24 ?_))
  have hst : Hid (Below w.heap.size w ((w.alloc (.cells (Ar .u8 x) 24)).alloc (.cells (Ar .u8 z64) 48))) := ((Below.refl _ _).alloc (Nat.le_refl _) _).alloc (by simp) _
  have hsg : Hid (Seg ((w.alloc (.cells (Ar .u8 x) 24)).alloc (.cells (Ar .u8 z64) 48)) (w.heap.size + 1) 0 .u8 z64) := by
    have := Seg.fresh (w.alloc (.cells (Ar .u8 x) 24)) 48 .u8 z64
    simpa [Hid] using this
  go_loopg [7] 32 (fun k s wr => ∃ (j : Nat) (xs : List Int), Hid (j + k = 32) ∧ j ≤ 32 ∧ s = .int .i64 (j : Int) ∧ Hid (xs.length = 64 ∧ xs.take (2 * j) = hexB (x.take j)) ∧ Hid (Seg wr (w.heap.size + 1) 0 .u8 xs) ∧ Hid (Below w.heap.size w wr))
  case atStart => exact ⟨0, z64, by unfold Hid; omega, by omega, rfl, ⟨rfl, rfl⟩, hsg, hst⟩
  case round =>
    obtain ⟨j, xs, hj, hj32, rfl, hxs, hG, hW⟩ := hrel
    by_cases hlt : j < 32
    · have hget := fun w => run_index_ar (P := Tryd.prog) w 24 5 32 Tryd.underlying24 (Tryd.isAgg5 w) (Tryd.sizeOf5 w) .u8 .i64 x (unhide HX) j (by rw [unhide HX]; exact hlt)
      have htk := hide (take_getD0 x j (by rw [unhide HX]; exact hlt))
      have hbd : 0 ≤ x.getD j 0 ∧ x.getD j 0 < 256 := unhide HB _ (by rw [List.getD_eq_getElem?_getD, List.getElem?_eq_getElem (by rw [unhide HX]; exact hlt)]; exact List.getElem_mem _)
      have hc1 := (unhide hG).cell (2 * j) (by rw [(unhide hxs).1]; omega)
      have hc2 := (unhide hG).cell (2 * j + 1) (by rw [(unhide hxs).1]; omega)
      have hf1 := (unhide hG).frz (2 * j) (by rw [(unhide hxs).1]; omega)
      have hf2 := (unhide hG).frz (2 * j + 1) (by rw [(unhide hxs).1]; omega)
      rw [Nat.zero_add] at hc1 hc2 hf1 hf2
      generalize xs.getD (2 * j) 0 = o1 at *
      generalize xs.getD (2 * j + 1) 0 = o2 at *
      generalize x.getD j 0 = b at *
      obtain ⟨b0, b1⟩ := hbd
      obtain ⟨b, rfl⟩ := Int.eq_ofNat_of_zero_le b0
      have i1 : (0 : Int) ≤ (j : Int) := by omega
      have i2 : (j : Int) < 32 := by omega
      obtain ⟨q1, hq1⟩ : ∃ q, Hid (b / 16 = q) := ⟨_, rfl⟩
      obtain ⟨q2, hq2⟩ : ∃ q, Hid (b % 16 = q) := ⟨_, rfl⟩
      have l1 : q1 < 16 := by have := unhide hq1; omega
      have l2 : q2 < 16 := by have := unhide hq2; omega
      have hw1 : (b : Int) / 16 = (q1 : Int) := by have := unhide hq1; omega
      have hw2 : (b : Int) % 16 = (q2 : Int) := by have := unhide hq2; omega
      have hI1 := digS_at q1 l1
      have hI2 := digS_at q2 l2
      have k1 : (q1 : Int) < 16 := by omega
      have k2 : (q2 : Int) < 16 := by omega
      obtain ⟨y1, hy1⟩ : ∃ y, Hid (hd (q1 : Int) = y) := ⟨_, rfl⟩
      obtain ⟨y2, hy2⟩ : ∃ y, Hid (hd (q2 : Int) = y) := ⟨_, rfl⟩
      rw [unhide hy1] at hI1
      rw [unhide hy2] at hI2
      go_wp2
      go_region
      all_goals go_wp2
      all_goals
        go_roundg (gk - 1)
        case measure => have := unhide hj; omega
        case rel =>
          have h0 := (unhide hxs).1
          have h1 := (unhide hG).set (2 * j) (by rw [h0]; omega) y1
          have h2 := h1.set (2 * j + 1) (by rw [List.length_set, h0]; omega) y2
          rw [Nat.zero_add] at h1 h2
          rw [Nat.zero_add] at h2
          refine ⟨j + 1, (xs.set (2 * j) y1).set (2 * j + 1) y2, by have := unhide hj; unfold Hid; omega, by omega, by go_num, ⟨by simp [h0], ?_⟩, h2.drew, ((((unhide hW).setCell (p := ⟨w.heap.size + 1, 2 * j, none⟩) (by simp) _).setCell (p := ⟨w.heap.size + 1, 2 * j + 1, none⟩) (by simp) _).drew)⟩
          have e1 : hexB [(b : Int)] = [y1, y2] := by
            rw [← unhide hy1, ← unhide hy2, ← unhide hq1, ← unhide hq2]
            show [hd ((b : Int) / 16), hd ((b : Int) % 16)] = _
            rw [Int.natCast_ediv, Int.natCast_emod]; rfl
          rw [unhide htk, hexB_append, e1, ← (unhide hxs).2]
          exact take_two xs (2 * j) y1 y2 (by rw [h0]; omega)
    · obtain rfl : j = 32 := by omega
      have hRd : Rd wr (.slice (some ⟨w.heap.size + 1, 0, none⟩) 64 64) (hexB x) := by
        have hl : (hexB x).length = 64 := by rw [hexB_length, unhide HX]
        have e : xs = hexB x := by
          have := (unhide hxs).2
          rw [List.take_of_length_le (by rw [(unhide hxs).1]; omega), List.take_of_length_le (by rw [unhide HX]; exact Nat.le_refl _)] at this
          exact this
        have hs := unhide hG
        rw [e] at hs
        refine .inr ⟨w.heap.size + 1, 0, 64, by rw [hl], by omega, by unfold maxLen; omega, ?_, fun i hi => hs.cell i hi⟩
        exact World.block_lt_of_cell? _ _ (hs.cell 0 (by omega))
      have hsc := str_conv wr _ (hexB x) hRd (hexB_bok (unhide HB))
      clear hRd
      go_wp2
      go_ret
      exact ⟨rfl, unhide hW⟩
end Go.Proofs.YtlkcjimkgebeiaaDoor
