/-
  DigestBack.
-/
import Derived.Test.YtlkcjimkgebeiabBack
namespace Go.Proofs.Ytlkcjimkgebeiab
open Go.RowKit

theorem own_keep {w w' : World} {base : Nat} {e : TypeId} {size : Nat} {v : Value} {n : Nat} {xs : List Value} (h : w.ownsRow base e size v n xs) (hb : ∀ g, v.ownBlock = some g → w'.heap[g]? = w.heap[g]?) : w'.ownsRow base e size v n xs := by
  refine ⟨h.1, ?_⟩
  rcases h.2 with hn | ⟨g, cap, cur, rfl, hb', hgg, rest⟩
  · exact .inl hn
  · exact .inr ⟨g, cap, cur, rfl, hb', (hb g rfl).trans hgg, rest⟩
theorem Seg.below {w w' : World} {b o : Nat} {k : IntKind} {xs : List Int} (h : Seg w b o k xs) (f : Below w.heap.size w w') (hb : b < w.heap.size) : Seg w' b o k xs := h.keepB (f.block b hb)
/-- A new box for an array that was answered. -/
theorem boxed (w : World) (ys : List Int) (hy : ys.length = 32) : Seg ((w.alloc (.cells (Ar .u8 z32) 22)).setCells w.heap.size 0 (ys.map (Value.int .u8))) w.heap.size 0 .u8 ys ∧
    Below w.heap.size w ((w.alloc (.cells (Ar .u8 z32) 22)).setCells w.heap.size 0 (ys.map (Value.int .u8))) ∧ w.heap.size < ((w.alloc (.cells (Ar .u8 z32) 22)).setCells w.heap.size 0 (ys.map (Value.int .u8))).heap.size := by
  have h0 := Seg.fresh w 22 .u8 z32
  have hs := Seg.stored (k := .u8) (w := w.alloc (.cells (Ar .u8 z32) 22)) (b := w.heap.size) (o := 0) ys (by rw [hy]; exact h0.2)
  have F := Fr.setCells (S := fun _ => False) (a := w) w.heap.size (.inl (Nat.le_refl _)) (ys.map (Value.int .u8)) 0 ((Fr.refl _ w).alloc (.cells (Ar .u8 z32) 22))
  exact ⟨hs, F.below (Nat.le_refl _) (by simp), World.block_lt_of_cell? _ _ (hs.cell 0 (by omega))⟩
theorem there_new (w : World) : (w.alloc (.cells (Ar .u8 z32) 22)).there w.heap.size 0 32 := (Seg.fresh w 22 .u8 z32).2
theorem FromV_good (B : List Int) (h : B.length = 32) : FromV B = .tuple #[.agg (Ar .u8 B), .bool true] := by unfold FromV dig; rw [if_pos h, decide_eq_true h]
theorem FromV_bad (B : List Int) (h : B.length ≠ 32) : FromV B = .tuple #[.agg (Ar .u8 z32), .bool false] := by unfold FromV dig; rw [if_neg h, decide_eq_false h]
theorem FromV_bad2 (B : List Int) (h : B.length ≠ 32) : ∃ z : List Int, FromV B = .tuple #[.agg (Ar .u8 z), .bool false] ∧ z.length = 32 := ⟨z32, FromV_bad B h, rfl⟩
theorem arr_eql (D : List Int) (h : D.length = 32) (w : World) : (Op.equalIn 10000 22 (.agg (Ar .u8 D)) (.agg (Ar .u8 D))).run Try.prog w = .ok true w := by
  obtain ⟨i0, hi0, _⟩ := info_parts Try.info5
  have := run_equal_ar (P := Try.prog) w 9998 22 5 32 .u8 .u8 i0 Try.underlying22 hi0 (by kernel_rfl) Try.underlying5 (Try.isAgg5 w) D D h h
  rw [this, beq_self_eq_true]

set_option maxHeartbeats 3200000 in
set_option maxRecDepth 100000 in
theorem backLaw (x : List Int) (hx : x.length = 32) (hB : BOk x) (w : World) :
    Calls Try.prog 3 #[.agg (Ar .u8 x)] w fun e w' => e = .returned (.bool true) ∧ Below w.heap.size w w' := by
  obtain ⟨i0, hi0, hz0, hz1, hz2⟩ := info_parts Try.info5
  have hz := hide Try.zero22
  have HS0 := hide (Seg.fresh w 22 .u8 x)
  have HX := hide hx
  have HB := hide hB
  clear hx hB
  go_enter Try.func3, Try.ntmps3
  go_wp2
  go_loopg [3, 4] 32 (fun k l s wr => ∃ (j : Nat), Hid (j + k = 32) ∧ j ≤ 32 ∧ s = .int .i64 (j : Int) ∧ Hid (Grows (w.alloc (.cells (Ar .u8 x) 22)) l (x.take j) wr))
  case atStart => exact ⟨0, by unfold Hid; omega, by omega, rfl, by exact ⟨World.ownsRow_nil _ _ _ _, Below.refl _ _⟩⟩
  case round =>
    obtain ⟨j, hj, hj32, rfl, hG⟩ := hrel
    by_cases hlt : j < 32
    · have hcell : wr.cell? ⟨w.heap.size, j, none⟩ = some (.int .u8 (x.getD j 0)) := by
        have := ((unhide HS0).keepB ((unhide hG).2.block w.heap.size (by simp))).cell j (by rw [unhide HX]; exact hlt)
        rwa [Nat.zero_add] at this
      have htk := hide (take_getD0 x j (by rw [unhide HX]; exact hlt))
      have hlen : (x.take j).length = j := by rw [List.length_take, unhide HX]; omega
      have hown := (unhide hG).1
      rw [hlen] at hown
      have HO := hide hown
      have hlen := hide hlen
      generalize x.getD j 0 = b at *
      have i1 : (0 : Int) ≤ (j : Int) := by omega
      have i2 : (j : Int) < 32 := by omega
      clear hown
      go_wp2_with (first | (at_builtin; refine wpList_append_own_at _ rfl _ _ 23 rfl (w.alloc (.cells (Ar .u8 x) 22)).heap.size 5 i0 (.int .u8 0) 1 1 Try.underlying23 hi0 hz0 hz1 hz2 rfl (by decide) _ _ _ rfl ((unhide HO).alloc _) ⟨wr.heap.size, 0, none⟩ 1 1 [.int .u8 b] rfl rfl (cell_one_new _ _ _) (by simp [Value.oneCell']) (by unfold maxLen; omega) (by omega) (by have := (unhide hG).2.size; simp at this ⊢; omega) ?_))
      intro v' w1 hown' hgrow hnil hat
      have hown2 : w1.ownsRow (w.alloc (.cells (Ar .u8 x) 22)).heap.size 5 1 v' (j + 1) ((x.map By).take j ++ [.int .u8 b]) := by
        rw [show (w.alloc (.cells (Ar .u8 x) 22)).heap.size = w.heap.size + 1 by simp]; exact hown'
      have HN : Hid (Grows (w.alloc (.cells (Ar .u8 x) 22)) v' (x.take (j + 1)) w1) := hide (by
        rw [unhide htk]
        exact (unhide hG).step hown2 (by rw [unhide hlen]) (by rw [List.map_take]) hgrow)
      clear hown' hown2 hgrow hnil hat
      go_wp2
      go_roundg (gk - 1)
      case measure => have := unhide hj; omega
      case rel => exact ⟨j + 1, by have := unhide hj; unfold Hid; omega, by omega, by go_num, HN⟩
    · obtain rfl : j = 32 := by omega
      have hG1 := unhide hG
      rw [List.take_of_length_le (by rw [unhide HX]; exact Nat.le_refl _)] at hG1
      obtain ⟨g, cap, rfl, hg0, hg1, hcap, hcm, hseg⟩ := own_at hG1.1 (by rw [unhide HX]; omega)
      have hOwn := hG1.1
      rw [unhide HX] at hcap hOwn ⊢
      have hs0 : Seg wr w.heap.size 0 .u8 x := (unhide HS0).keepB (hG1.2.block w.heap.size (by simp))
      have hbw : Below w.heap.size w wr := ((Below.refl _ w).alloc (Nat.le_refl _) _).trans (hG1.2.mono (by simp))
      have hgw : w.heap.size + 1 ≤ g := by simpa using hg0
      have hR1 : Rd wr (.slice (some ⟨g, 0, none⟩) 32 cap) x := by
        have := hseg.rd 32 cap (by rw [unhide HX]; omega) hcap hcm hg1
        rwa [List.take_of_length_le (by rw [unhide HX]; exact Nat.le_refl _)] at this
      have hC1 := from_any _ x wr hR1
      rw [FromV_good x (unhide HX)] at hC1
      have hC1 := hide hC1
      have HW : Hid (Seg wr w.heap.size 0 .u8 x ∧ Seg wr g 0 .u8 x ∧ wr.ownsRow (w.heap.size + 1) 5 1 (.slice (some ⟨g, 0, none⟩) 32 cap) 32 (x.map By) ∧ Below w.heap.size w wr ∧ w.heap.size + 1 ≤ g ∧ g < wr.heap.size) := ⟨hs0, hseg, by simpa using hOwn, hbw, hgw, hg1⟩
      have hcapi : (32 : Int) ≤ (cap : Int) := by omega
      have Hcap := hide hcap
      have Hcm := hide hcm
      clear hG hG1 hg0 hg1 hcap hcm hseg hOwn hs0 hbw hgw hR1
      go_wp2_with fail
      refine (unhide hC1).mono ?_
      rintro e w2 ⟨rfl, hb2⟩
      have HB2 := hide hb2
      clear hC1 hb2
      go_wp2_with (first | (refine wpList_alloc_ar rfl 22 rfl (Ar .u8 z32) 32 (unhide hz) ?_) | (refine wpList_store_ar rfl 22 _ _ rfl w2.heap.size 0 rfl .u8 x 32 rfl (unhide HX) (there_new w2) Try.info22 ?_))
      obtain ⟨hs3, hb3, hlt3⟩ := boxed w2 x (unhide HX)
      generalize (w2.alloc (.cells (Ar .u8 z32) 22)).setCells w2.heap.size 0 (x.map (Value.int .u8)) = w3 at *
      have hbr3 : Below wr.heap.size wr w3 := (unhide HB2).trans (hb3.mono (unhide HB2).size)
      have hw := unhide HW
      have hz3 := hbr3.size
      have hR3 : Rd w3 (.slice (some ⟨g, 0, none⟩) 31 cap) (x.take 31) := (hw.2.1.below hbr3 hw.2.2.2.2.2).rd 31 cap (by rw [unhide HX]; omega) (by have := unhide Hcap; omega) (unhide Hcm) (by omega)
      have hC3 := from_any _ _ w3 hR3
      obtain ⟨zz, hzz, hzl⟩ := FromV_bad2 (x.take 31) (by rw [List.length_take, unhide HX]; omega)
      rw [hzz] at hC3
      have HZ := hide hzl
      clear hzz hzl
      have hC3 := hide hC3
      have HW3 : Hid (Seg w3 w.heap.size 0 .u8 x ∧ Seg w3 w2.heap.size 0 .u8 x ∧ w3.ownsRow (w.heap.size + 1) 5 1 (.slice (some ⟨g, 0, none⟩) 32 cap) 32 (x.map By) ∧ Below w.heap.size w w3 ∧ (w.heap.size + 1 ≤ g ∧ g < wr.heap.size ∧ wr.heap.size ≤ w2.heap.size ∧ w2.heap.size < w3.heap.size)) :=
        ⟨hw.1.below hbr3 (by omega), hs3, own_keep hw.2.2.1 (fun k hk => hbr3.block k (by simp [Value.ownBlock] at hk; omega)), hw.2.2.2.1.trans (hbr3.mono hw.2.2.2.1.size), hw.2.2.2.2.1, hw.2.2.2.2.2, (unhide HB2).size, hlt3⟩
      generalize w2.heap.size = p5 at *
      clear hs3 hb3 hlt3 hbr3 hw hz3 hR3 HB2 HW
      refine (unhide hC3).mono ?_
      rintro e w4 ⟨rfl, hb4⟩
      have HB4 := hide hb4
      clear hC3 hb4
      obtain ⟨hs5, hb5, hlt5⟩ := boxed w4 zz (unhide HZ)
      have hb35 := (unhide HB4).trans (hb5.mono (unhide HB4).size)
      have hw := unhide HW3
      have hz35 := hb35.size
      have HW5 : Hid (Seg ((w4.alloc (.cells (Ar .u8 z32) 22)).setCells w4.heap.size 0 (zz.map (Value.int .u8))) w.heap.size 0 .u8 x ∧ Seg ((w4.alloc (.cells (Ar .u8 z32) 22)).setCells w4.heap.size 0 (zz.map (Value.int .u8))) p5 0 .u8 x ∧ ((w4.alloc (.cells (Ar .u8 z32) 22)).setCells w4.heap.size 0 (zz.map (Value.int .u8))).ownsRow (w.heap.size + 1) 5 1 (.slice (some ⟨g, 0, none⟩) 32 cap) 32 (x.map By) ∧ Below w.heap.size w ((w4.alloc (.cells (Ar .u8 z32) 22)).setCells w4.heap.size 0 (zz.map (Value.int .u8))) ∧ (w.heap.size + 1 ≤ g ∧ g < p5 ∧ p5 < ((w4.alloc (.cells (Ar .u8 z32) 22)).setCells w4.heap.size 0 (zz.map (Value.int .u8))).heap.size)) :=
        ⟨hw.1.below hb35 (by omega), hw.2.1.below hb35 (by omega), own_keep hw.2.2.1 (fun k hk => hb35.block k (by simp [Value.ownBlock] at hk; omega)), hw.2.2.2.1.trans (hb35.mono hw.2.2.2.1.size), by omega, by omega, by omega⟩
      clear hs5 hb5 hlt5 hb35 hw hz35 HB4 HW3
      go_wp2_with (first | (refine wpList_alloc_ar rfl 22 rfl (Ar .u8 z32) 32 (unhide hz) ?_) | (refine wpList_store_ar rfl 22 _ _ rfl w4.heap.size 0 rfl .u8 zz 32 rfl (unhide HZ) (there_new w4) Try.info22 ?_; generalize (w4.alloc (.cells (Ar .u8 z32) 22)).setCells w4.heap.size 0 (zz.map (Value.int .u8)) = w5 at *) | (at_builtin; refine wpList_append_own_at _ rfl _ _ 23 rfl (w.heap.size + 1) 5 i0 (.int .u8 0) 1 1 Try.underlying23 hi0 hz0 hz1 hz2 rfl (by decide) _ _ _ rfl ((unhide HW5).2.2.1.alloc _) ⟨w5.heap.size, 0, none⟩ 1 1 [.int .u8 0] rfl rfl (cell_one_new _ _ _) (by simp [Value.oneCell']) (by unfold maxLen; omega) (by omega) (by have := (unhide HW5).2.2.2.2; simp at this ⊢; omega) ?_))
      intro v6 w6 hown6 hgrow hnil hat
      have hw := unhide HW5
      have hne0 : some w.heap.size ≠ (Value.slice (some ⟨g, 0, none⟩) 32 cap).ownBlock := by simp [Value.ownBlock]; omega
      have hne5 : some p5 ≠ (Value.slice (some ⟨g, 0, none⟩) 32 cap).ownBlock := by simp [Value.ownBlock]; omega
      have hR6 : Rd w6 v6 (x ++ [0]) := Rd.of_own (base := w.heap.size + 1) (by
        rw [List.length_append, unhide HX, List.map_append]; exact hown6)
      have hsz6 := hgrow.size
      have hs60 : Seg w6 w.heap.size 0 .u8 x := (hw.1.alloc _).keepB (hgrow.block _ (by simp; omega) hne0)
      have hs65 : Seg w6 p5 0 .u8 x := (hw.2.1.alloc _).keepB (hgrow.block _ (by simp; omega) hne5)
      have hb6 : Below w.heap.size w w6 := (hw.2.2.2.1.alloc (by have := hw.2.2.2.1.size; omega) _).grown hgrow (by have := hw.2.2.2.1.size; simp; omega) (fun k hk => by simp [Value.ownBlock] at hk; omega)
      have HW6 : Hid (Seg w6 w.heap.size 0 .u8 x ∧ Seg w6 p5 0 .u8 x ∧ Below w.heap.size w w6 ∧ w.heap.size < p5 ∧ p5 < w6.heap.size) := ⟨hs60, hs65, hb6, by omega, by simp at hsz6; omega⟩
      have hC6 := from_any _ _ w6 hR6
      obtain ⟨zy, hzy, hzl⟩ := FromV_bad2 (x ++ [0]) (by rw [List.length_append, unhide HX]; simp)
      rw [hzy] at hC6
      have hC6 := hide hC6
      have HZ2 := hide hzl
      clear hown6 hgrow hnil hat hw hne0 hne5 hR6 hsz6 hs60 hs65 hb6 hzy hzl HW5
      go_wp2_with fail
      refine (unhide hC6).mono ?_
      rintro e w7 ⟨rfl, hb7⟩
      have HB7 := hide hb7
      clear hC6 hb7
      obtain ⟨hs8, hb8, hlt8⟩ := boxed w7 zy (unhide HZ2)
      have hb68 := (unhide HB7).trans (hb8.mono (unhide HB7).size)
      have hw := unhide HW6
      have HW8 : Hid (Seg ((w7.alloc (.cells (Ar .u8 z32) 22)).setCells w7.heap.size 0 (zy.map (Value.int .u8))) w.heap.size 0 .u8 x ∧ Seg ((w7.alloc (.cells (Ar .u8 z32) 22)).setCells w7.heap.size 0 (zy.map (Value.int .u8))) p5 0 .u8 x ∧ Below w.heap.size w ((w7.alloc (.cells (Ar .u8 z32) 22)).setCells w7.heap.size 0 (zy.map (Value.int .u8))) ∧ w.heap.size < p5 ∧ p5 < ((w7.alloc (.cells (Ar .u8 z32) 22)).setCells w7.heap.size 0 (zy.map (Value.int .u8))).heap.size) :=
        ⟨hw.1.below hb68 (by omega), hw.2.1.below hb68 (by omega), hw.2.2.1.trans (hb68.mono hw.2.2.1.size), by omega, by have := hb68.size; omega⟩
      clear hs8 hb8 hlt8 hb68 hw HB7 HW6
      go_wp2_with (first | (refine wpList_alloc_ar rfl 22 rfl (Ar .u8 z32) 32 (unhide hz) ?_) | (refine wpList_store_ar rfl 22 _ _ rfl w7.heap.size 0 rfl .u8 zy 32 rfl (unhide HZ2) (there_new w7) Try.info22 ?_; generalize (w7.alloc (.cells (Ar .u8 z32) 22)).setCells w7.heap.size 0 (zy.map (Value.int .u8)) = w8 at *) | (refine wpList_load_ar rfl 22 _ rfl w.heap.size 0 rfl .u8 x _ 32 (unhide HW8).1 (unhide HX) Try.underlying22 rfl Try.info22 ?_))
      have hC8 := hide (hex_any x (unhide HX) (unhide HB))
      refine (unhide hC8 _).mono ?_
      rintro e w9 ⟨rfl, hb9⟩
      have hw := unhide HW8
      have HW9 : Hid (Seg w9 w.heap.size 0 .u8 x ∧ Seg w9 p5 0 .u8 x ∧ Below w.heap.size w w9) := ⟨hw.1.below hb9 (by omega), hw.2.1.below hb9 (by omega), hw.2.2.1.trans (hb9.mono hw.2.2.1.size)⟩
      have hSz : (toStr (hexB x)).size = 64 := by rw [toStr_size, hexB_length, unhide HX]
      have hSat := hide (toStr_at (hexB x) (hexB_bok (unhide HB)))
      clear hC8 hb9 hw HW8
      have e1 := arr_eql x (unhide HX)
      have HE := hide (And.intro (hexB_even x) (hexB_odd x))
      generalize toStr (hexB x) = S at *
      go_wp2_with (first | (refine wpList_load_arw rfl 22 _ rfl p5 0 rfl .u8 x _ 32 (unhide HW9).2.1 (unhide HX) Try.underlying22 rfl Try.info22 ?_) | (refine wpList_load_arw rfl 22 _ rfl w.heap.size 0 rfl .u8 x _ 32 (unhide HW9).1 (unhide HX) Try.underlying22 rfl Try.info22 ?_))
      go_loopg [12] 32 (fun k s wr => ∃ (j : Nat), Hid (j + k = 32) ∧ j ≤ 32 ∧ s = .int .i64 (j : Int) ∧ wr = w9)
      case atStart => exact ⟨0, by unfold Hid; omega, by omega, rfl, rfl⟩
      case round =>
        obtain ⟨j, hj, hj32, rfl, rfl⟩ := hrel
        by_cases hlt : j < 32
        · have hc0 := (unhide HW9).1.cell j (by rw [unhide HX]; exact hlt)
          rw [Nat.zero_add] at hc0
          have hbd : 0 ≤ x.getD j 0 ∧ x.getD j 0 < 256 := unhide HB _ (by rw [List.getD_eq_getElem?_getD, List.getElem?_eq_getElem (by rw [unhide HX]; exact hlt)]; exact List.getElem_mem _)
          have hI1 : ∀ h, ((((S[2 * j]'h).toNat : Nat)) : Int) = hd (x.getD j 0 / 16) := fun h => (unhide hSat (2 * j) h).trans ((unhide HE).1 j (by rw [unhide HX]; exact hlt))
          have hI2 : ∀ h, ((((S[2 * j + 1]'h).toNat : Nat)) : Int) = hd (x.getD j 0 % 16) := fun h => (unhide hSat (2 * j + 1) h).trans ((unhide HE).2 j (by rw [unhide HX]; exact hlt))
          generalize x.getD j 0 = b at *
          obtain ⟨b0, b1⟩ := hbd
          obtain ⟨b, rfl⟩ := Int.eq_ofNat_of_zero_le b0
          rw [show (b : Int) / 16 = ((b / 16 : Nat) : Int) by omega] at hI1
          rw [show (b : Int) % 16 = ((b % 16 : Nat) : Int) by omega] at hI2
          obtain ⟨q1, hq1⟩ : ∃ q, b / 16 = q := ⟨_, rfl⟩
          obtain ⟨q2, hq2⟩ : ∃ q, b % 16 = q := ⟨_, rfl⟩
          rw [hq1] at hI1
          rw [hq2] at hI2
          have l1 : q1 < 16 := by omega
          have l2 : q2 < 16 := by omega
          have hbq : 16 * (q1 : Int) + (q2 : Int) = (b : Int) := by omega
          have D1 := hide (digit_any q1 l1)
          have D2 := hide (digit_any q2 l2)
          generalize hd (q1 : Int) = y1 at *
          generalize hd (q2 : Int) = y2 at *
          have i1 : (0 : Int) ≤ (j : Int) := by omega
          have i2 : (j : Int) < 32 := by omega
          have n1 : (0 : Int) ≤ (q1 : Int) := by omega
          have n2 : (0 : Int) ≤ (q2 : Int) := by omega
          clear hq1 hq2
          go_wp2_with fail
          refine (unhide D1 _).mono ?_
          rintro e w' ⟨rfl, hww⟩
          obtain rfl := hww
          go_wp2_with fail
          refine (unhide D2 _).mono ?_
          rintro e w' ⟨rfl, hww⟩
          obtain rfl := hww
          clear hI1 hI2 D1 D2
          go_wp2
          go_roundg (gk - 1)
          case measure => have := unhide hj; omega
          case rel => exact ⟨j + 1, by have := unhide hj; unfold Hid; omega, by omega, by go_num, rfl⟩
        · go_wp2
          go_ret
          exact ⟨rfl, (unhide HW9).2.2⟩
end Go.Proofs.Ytlkcjimkgebeiab
