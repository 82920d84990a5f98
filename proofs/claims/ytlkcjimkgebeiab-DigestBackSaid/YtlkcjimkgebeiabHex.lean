/-
  Hex, the program's and the document's.
-/
import Derived.Test.YtlkcjimkgebeiabBase
namespace Go.Proofs.Ytlkcjimkgebeiab
open Go.RowKit

/-- A digit. -/
def hd (n : Int) : Int := if n < 10 then 48 + n else 87 + n
/-- The digits of bytes. -/
def hexB (x : List Int) : List Int := x.flatMap fun b => [hd (b / 16), hd (b % 16)]
theorem hexB_append (x y : List Int) : hexB (x ++ y) = hexB x ++ hexB y := by simp [hexB]
theorem hexB_length (x : List Int) : (hexB x).length = 2 * x.length := by
  induction x with
  | nil => rfl
  | cons b t ih => rw [show b :: t = [b] ++ t from rfl, hexB_append, List.length_append, ih, List.length_append]; simp [hexB]; omega
theorem hd_bd {n : Int} (h0 : 0 ≤ n) (h1 : n < 16) : 0 ≤ hd n ∧ hd n < 256 := by unfold hd; split <;> omega
theorem hexB_bok {x : List Int} (h : BOk x) : BOk (hexB x) := by
  intro b hb
  simp only [hexB, List.mem_flatMap] at hb
  obtain ⟨a, ha, hb⟩ := hb
  have := h a ha
  simp at hb
  rcases hb with rfl | rfl
  · exact hd_bd (by omega) (by omega)
  · exact hd_bd (by omega) (by omega)
/-- The digits as the program's text has them. -/
def digS : ByteArray := { data := #[48, 49, 50, 51, 52, 53, 54, 55, 56, 57, 97, 98, 99, 100, 101, 102] }

/-- An array's box. -/
theorem box_cell (w : World) (x : List Int) (t : TypeId) (j : Nat) (hj : j < x.length) : (w.alloc (.cells (Ar .u8 x) t)).cell? ⟨w.heap.size, j, none⟩ = some (.int .u8 (x.getD j 0)) := by
  have := (Seg.fresh w t .u8 x).cell j hj
  rwa [Nat.zero_add] at this

theorem digS_at (q : Nat) (h : q < 16) (h2 : q < ByteArray.size { data := #[48, 49, 50, 51, 52, 53, 54, 55, 56, 57, 97, 98, 99, 100, 101, 102] }) : (((({ data := #[48, 49, 50, 51, 52, 53, 54, 55, 56, 57, 97, 98, 99, 100, 101, 102] } : ByteArray)[q]'h2).toNat : Nat) : Int) = hd (q : Int) := by
  have : ∀ n : Fin 16, ((({ data := #[48, 49, 50, 51, 52, 53, 54, 55, 56, 57, 97, 98, 99, 100, 101, 102] } : ByteArray)[n.val]'n.isLt).toNat : Int) = hd (n.val : Int) := by decide
  exact this ⟨q, h⟩
theorem digS_get (q : Nat) (h : q < 16) : ((digS.data[q]?.getD 0).toNat : Int) = hd (q : Int) := by
  have : ∀ n : Fin 16, ((digS.data[n.val]?.getD 0).toNat : Int) = hd (n.val : Int) := by decide
  exact this ⟨q, h⟩

theorem Try.info22 : (Try.prog.info? 22).map (·.size) = some 32 := by kernel_rfl
def z32 : List Int := List.replicate 32 0
theorem z32_len : z32.length = 32 := rfl
theorem Try.zero22 : (Try.prog.info? 22).map (fun i => (i.zero, i.size)) = some (some (.agg (Ar .u8 z32)), 32) := by kernel_rfl
/-- The digest that bytes are. -/
def dig (B : List Int) : List Int := if B.length = 32 then B else z32
theorem dig_len (B : List Int) : (dig B).length = 32 := by unfold dig; split; assumption; rfl
/-- What From answers. -/
def FromV (B : List Int) : Value := .tuple #[.agg (Ar .u8 (dig B)), .bool (decide (B.length = 32))]

set_option maxHeartbeats 1600000 in
set_option maxRecDepth 100000 in
theorem from_bad (v : Value) (B : List Int) (w : World) (hR : Rd w v B) (hne : B.length ≠ 32) :
    Calls Try.prog 4 #[v] w fun e w' => e = .returned (FromV B) ∧ Below w.heap.size w w' := by
  obtain ⟨a, cap, rfl⟩ := hR.shapeR
  have hF : Hid (FromV B = .tuple #[.agg (Ar .u8 z32), .bool false]) := by
    show FromV B = _
    unfold FromV dig; rw [if_neg hne, decide_eq_false hne]
  have H1 := hide (Seg.fresh w 22 .u8 z32)
  have H2 : Hid (Seg ((w.alloc (.cells (Ar .u8 z32) 22)).alloc (.cells (Ar .u8 z32) 22)) (w.heap.size + 1) 0 .u8 z32) := by
    have := Seg.fresh (w.alloc (.cells (Ar .u8 z32) 22)) 22 .u8 z32
    simpa [Hid] using this
  have hz := hide Try.zero22
  obtain ⟨n, hn⟩ : ∃ n, Hid (B.length = n) := ⟨_, rfl⟩
  rw [unhide hn] at hne ⊢
  have hne' : ((n : Nat) : Int) ≠ 32 := by omega
  clear hR
  go_enter Try.func4, Try.ntmps4
  go_wp2_with (first | (refine wpList_alloc_ar rfl 22 rfl (Ar .u8 z32) 32 (unhide hz) ?_) | (refine wpList_load_ar rfl 22 _ rfl (w.heap.size + 1) 0 rfl .u8 z32 _ 32 (unhide H2) z32_len Try.underlying22 rfl Try.info22 ?_) | (refine wpList_store_ar rfl 22 _ _ rfl w.heap.size 0 rfl .u8 z32 32 rfl z32_len ((unhide H1).alloc _).2 Try.info22 ?_))
  have hs := Seg.stored (k := .u8) z32 (((unhide H1).alloc (.cells (Ar .u8 z32) 22)).2)
  refine bodyPost_ret (v := .tuple #[.agg (Ar .u8 z32), .bool false]) ?_ rfl ⟨by rw [unhide hF], ?_⟩
  · rw [results_cell_tmp rfl]
    have hld := run_loadVar_ar (P := Try.prog) _ w.heap.size 0 22 .u8 z32 _ 32 hs z32_len Try.underlying22 rfl Try.info22
    simp [asAddr, Result.andThen, hld]
  · have F := Fr.setCells (S := fun _ => False) (a := w) w.heap.size (.inl (Nat.le_refl _)) (z32.map (Value.int .u8)) 0 (((Fr.refl _ w).alloc (.cells (Ar .u8 z32) 22)).alloc (.cells (Ar .u8 z32) 22))
    exact F.below (Nat.le_refl _) (by simp)

set_option maxHeartbeats 1600000 in
set_option maxRecDepth 100000 in
theorem from_good (v : Value) (B : List Int) (w : World) (hR : Rd w v B) (heq : B.length = 32) :
    Calls Try.prog 4 #[v] w fun e w' => e = .returned (FromV B) ∧ Below w.heap.size w w' := by
  obtain ⟨a, cap, rfl⟩ := hR.shapeR
  have hF : Hid (FromV B = .tuple #[.agg (Ar .u8 B), .bool true]) := by
    show FromV B = _
    unfold FromV dig; rw [if_pos heq, decide_eq_true heq]
  have H1 := hide (Seg.fresh w 22 .u8 z32)
  have H2 : Hid (Seg ((w.alloc (.cells (Ar .u8 z32) 22)).alloc (.cells (Ar .u8 z32) 22)) (w.heap.size + 1) 0 .u8 z32) := by
    have := Seg.fresh (w.alloc (.cells (Ar .u8 z32) 22)) 22 .u8 z32
    simpa [Hid] using this
  have hR2 : Hid (Rd ((w.alloc (.cells (Ar .u8 z32) 22)).alloc (.cells (Ar .u8 z32) 22)) (.slice a 32 cap) B) := by
    rw [← heq]; exact hR.below (((Below.refl _ _).alloc (Nat.le_refl _) _).alloc (by simp) _)
  have hz := hide Try.zero22
  have hn := hide heq
  have hmn : Hid (min B.length 32 = 32) := by rw [Hid, heq]; rfl
  have htk : Hid (B.take 32 = B) := List.take_of_length_le (by omega)
  have H3 : Hid (Seg (((w.alloc (.cells (Ar .u8 z32) 22)).alloc (.cells (Ar .u8 z32) 22)).setCells (w.heap.size + 1) 0 (B.map (Value.int .u8))) (w.heap.size + 1) 0 .u8 B) := Seg.stored B (by rw [heq]; exact (unhide H2).2)
  have H4 : Hid ((((w.alloc (.cells (Ar .u8 z32) 22)).alloc (.cells (Ar .u8 z32) 22)).setCells (w.heap.size + 1) 0 (B.map (Value.int .u8))).there w.heap.size 0 32) := World.there_setCells ((unhide H1).alloc _).2 _ _ _
  rw [heq]
  clear hR heq
  go_enter Try.func4, Try.ntmps4
  go_wp2_with (first | (refine wpList_alloc_ar rfl 22 rfl (Ar .u8 z32) 32 (unhide hz) ?_) | (refine wpList_copy_ar rfl _ _ rfl (w.heap.size + 1) 0 32 32 rfl (.slice a 32 cap) B rfl (unhide hR2) (by rw [unhide hmn]; exact (unhide H2).2) ?_; rw [unhide htk, unhide hmn]) | (refine wpList_load_ar rfl 22 _ rfl (w.heap.size + 1) 0 rfl .u8 B _ 32 (unhide H3) (unhide hn) Try.underlying22 rfl Try.info22 ?_) | (refine wpList_store_ar rfl 22 _ _ rfl w.heap.size 0 rfl .u8 B 32 rfl (unhide hn) (unhide H4) Try.info22 ?_))
  have hs := Seg.stored (k := .u8) B (by rw [unhide hn]; exact unhide H4)
  refine bodyPost_ret (v := .tuple #[.agg (Ar .u8 B), .bool true]) ?_ rfl ⟨by rw [unhide hF], ?_⟩
  · rw [results_cell_tmp rfl]
    have hld := run_loadVar_ar (P := Try.prog) _ w.heap.size 0 22 .u8 B _ 32 hs (unhide hn) Try.underlying22 rfl Try.info22
    simp [asAddr, Result.andThen, hld]
  · have F := Fr.setCells (S := fun _ => False) (a := w) w.heap.size (.inl (Nat.le_refl _)) (B.map (Value.int .u8)) 0 (Fr.setCells (S := fun _ => False) (a := w) (w.heap.size + 1) (.inl (by omega)) (B.map (Value.int .u8)) 0 (((Fr.refl _ w).alloc (.cells (Ar .u8 z32) 22)).alloc (.cells (Ar .u8 z32) 22)))
    exact F.below (Nat.le_refl _) (by simp)
theorem from_any (v : Value) (B : List Int) (w : World) (hR : Rd w v B) :
    Calls Try.prog 4 #[v] w fun e w' => e = .returned (FromV B) ∧ Below w.heap.size w w' := by
  by_cases h : B.length = 32
  · exact from_good v B w hR h
  · exact from_bad v B w hR h


theorem Try.zero29 : (Try.prog.info? 29).map (fun i => (i.zero, i.size)) = some (some (.agg (Ar .u8 (List.replicate 64 0))), 64) := by kernel_rfl
def z64 : List Int := List.replicate 64 0
theorem z64_len : z64.length = 64 := rfl

theorem take_two (xs : List Int) (n : Nat) (y1 y2 : Int) (h : n + 2 ≤ xs.length) : ((xs.set n y1).set (n + 1) y2).take (n + 2) = xs.take n ++ [y1, y2] := by
  apply List.ext_getElem?
  intro i
  rw [List.getElem?_take, List.getElem?_append, List.length_take]
  have hm : min n xs.length = n := by omega
  rw [hm]
  by_cases h1 : i < n
  · have a1 : i < n + 2 := by omega
    have a2 : ¬ n + 1 = i := by omega
    have a3 : ¬ n = i := by omega
    simp [h1, a1, a2, a3]
  · by_cases h2 : i = n
    · subst h2
      have a1 : i < xs.length := by omega
      simp [a1]
    · by_cases h3 : i = n + 1
      · subst h3
        have a1 : n + 1 < xs.length := by omega
        simp [a1]
        intro hh; omega
      · have a1 : ¬ i < n + 2 := by omega
        have a2 : 2 ≤ i - n := by omega
        simp [h1, a1, a2]

set_option maxHeartbeats 1600000 in
set_option maxRecDepth 100000 in
theorem hex_any (x : List Int) (hx : x.length = 32) (hB : BOk x) (w : World) :
    Calls Try.prog 5 #[.agg (Ar .u8 x)] w fun e w' => e = .returned (.string (toStr (hexB x))) ∧ Below w.heap.size w w' := by
  have HS := hide (Seg.fresh w 22 .u8 x)
  have hz29 := hide Try.zero29
  rw [show List.replicate 64 (0 : Int) = z64 from rfl] at hz29
  have HX := hide hx
  have HB := hide hB
  clear hx hB
  go_enter Try.func5, Try.ntmps5
  go_wp2_with (first | (refine wpList_alloc_ar rfl 29 rfl (Ar .u8 z64) 64 (unhide hz29) ?_) | (refine wpList_load_ar rfl 22 _ rfl w.heap.size 0 rfl .u8 x _ 32 ((unhide HS).alloc _) (unhide HX) Try.underlying22 rfl Try.info22 ?_))
  have hst : Hid (Below w.heap.size w ((w.alloc (.cells (Ar .u8 x) 22)).alloc (.cells (Ar .u8 z64) 29))) := ((Below.refl _ _).alloc (Nat.le_refl _) _).alloc (by simp) _
  have hsg : Hid (Seg ((w.alloc (.cells (Ar .u8 x) 22)).alloc (.cells (Ar .u8 z64) 29)) (w.heap.size + 1) 0 .u8 z64) := by
    have := Seg.fresh (w.alloc (.cells (Ar .u8 x) 22)) 29 .u8 z64
    simpa [Hid] using this
  go_loopg [7] 32 (fun k s wr => ∃ (j : Nat) (xs : List Int), Hid (j + k = 32) ∧ j ≤ 32 ∧ s = .int .i64 (j : Int) ∧ Hid (xs.length = 64 ∧ xs.take (2 * j) = hexB (x.take j)) ∧ Hid (Seg wr (w.heap.size + 1) 0 .u8 xs) ∧ Hid (Below w.heap.size w wr))
  case atStart => exact ⟨0, z64, by unfold Hid; omega, by omega, rfl, ⟨rfl, rfl⟩, hsg, hst⟩
  case round =>
    obtain ⟨j, xs, hj, hj32, rfl, hxs, hG, hW⟩ := hrel
    by_cases hlt : j < 32
    · have hget := fun w => run_index_ar (P := Try.prog) w 22 5 32 Try.underlying22 (Try.isAgg5 w) (Try.sizeOf5 w) .u8 .i64 x (unhide HX) j (by rw [unhide HX]; exact hlt)
      have htk := hide (take_getD0 x j (by rw [unhide HX]; exact hlt))
      have hbd : 0 ≤ x.getD j 0 ∧ x.getD j 0 < 256 := unhide HB _ (by rw [List.getD_eq_getElem?_getD, List.getElem?_eq_getElem (by rw [unhide HX]; exact hlt)]; exact List.getElem_mem _)
      have hc1 := (unhide hG).cell (2 * j) (by rw [(unhide hxs).1]; omega)
      have hc2 := (unhide hG).cell (2 * j + 1) (by rw [(unhide hxs).1]; omega)
      have hf1 := (unhide hG).frz (2 * j) (by rw [(unhide hxs).1]; omega)
      have hf2 := (unhide hG).frz (2 * j + 1) (by rw [(unhide hxs).1]; omega)
      rw [Nat.zero_add] at hc1 hc2 hf1 hf2
      generalize xs.getD (2 * j) 0 = o1 at *
      generalize xs.getD (2 * j + 1) 0 = o2 at *
      generalize x.getD j 0 = b at *
      obtain ⟨b0, b1⟩ := hbd
      obtain ⟨b, rfl⟩ := Int.eq_ofNat_of_zero_le b0
      have i1 : (0 : Int) ≤ (j : Int) := by omega
      have i2 : (j : Int) < 32 := by omega
      obtain ⟨q1, hq1⟩ : ∃ q, Hid (b / 16 = q) := ⟨_, rfl⟩
      obtain ⟨q2, hq2⟩ : ∃ q, Hid (b % 16 = q) := ⟨_, rfl⟩
      have l1 : q1 < 16 := by have := unhide hq1; omega
      have l2 : q2 < 16 := by have := unhide hq2; omega
      have hw1 : (b : Int) / 16 = (q1 : Int) := by have := unhide hq1; omega
      have hw2 : (b : Int) % 16 = (q2 : Int) := by have := unhide hq2; omega
      have hI1 := digS_at q1 l1
      have hI2 := digS_at q2 l2
      have k1 : (q1 : Int) < 16 := by omega
      have k2 : (q2 : Int) < 16 := by omega
      obtain ⟨y1, hy1⟩ : ∃ y, Hid (hd (q1 : Int) = y) := ⟨_, rfl⟩
      obtain ⟨y2, hy2⟩ : ∃ y, Hid (hd (q2 : Int) = y) := ⟨_, rfl⟩
      rw [unhide hy1] at hI1
      rw [unhide hy2] at hI2
      go_wp2
      go_region
      all_goals go_wp2
      all_goals
        go_roundg (gk - 1)
        case measure => have := unhide hj; omega
        case rel =>
          have h0 := (unhide hxs).1
          have h1 := (unhide hG).set (2 * j) (by rw [h0]; omega) y1
          have h2 := h1.set (2 * j + 1) (by rw [List.length_set, h0]; omega) y2
          rw [Nat.zero_add] at h1 h2
          rw [Nat.zero_add] at h2
          refine ⟨j + 1, (xs.set (2 * j) y1).set (2 * j + 1) y2, by have := unhide hj; unfold Hid; omega, by omega, by go_num, ⟨by simp [h0], ?_⟩, h2.drew, ((((unhide hW).setCell (p := ⟨w.heap.size + 1, 2 * j, none⟩) (by simp) _).setCell (p := ⟨w.heap.size + 1, 2 * j + 1, none⟩) (by simp) _).drew)⟩
          have e1 : hexB [(b : Int)] = [y1, y2] := by
            rw [← unhide hy1, ← unhide hy2, ← unhide hq1, ← unhide hq2]
            show [hd ((b : Int) / 16), hd ((b : Int) % 16)] = _
            rw [Int.natCast_ediv, Int.natCast_emod]; rfl
          rw [unhide htk, hexB_append, e1, ← (unhide hxs).2]
          exact take_two xs (2 * j) y1 y2 (by rw [h0]; omega)
    · obtain rfl : j = 32 := by omega
      have hRd : Rd wr (.slice (some ⟨w.heap.size + 1, 0, none⟩) 64 64) (hexB x) := by
        have hl : (hexB x).length = 64 := by rw [hexB_length, unhide HX]
        have e : xs = hexB x := by
          have := (unhide hxs).2
          rw [List.take_of_length_le (by rw [(unhide hxs).1]; omega), List.take_of_length_le (by rw [unhide HX]; exact Nat.le_refl _)] at this
          exact this
        have hs := unhide hG
        rw [e] at hs
        refine .inr ⟨w.heap.size + 1, 0, 64, by rw [hl], by omega, by unfold maxLen; omega, ?_, fun i hi => hs.cell i hi⟩
        exact World.block_lt_of_cell? _ _ (hs.cell 0 (by omega))
      have hsc := str_conv wr _ (hexB x) hRd (hexB_bok (unhide HB))
      clear hRd
      go_wp2
      go_ret
      exact ⟨rfl, unhide hW⟩
end Go.Proofs.Ytlkcjimkgebeiab
