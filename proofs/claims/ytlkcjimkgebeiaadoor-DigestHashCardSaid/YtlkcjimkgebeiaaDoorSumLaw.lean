/-
  DigestSum.
-/
import Derived.Test.YtlkcjimkgebeiaaDoorSame
namespace Go.Proofs.YtlkcjimkgebeiaaDoor
open Go.RowKit

theorem bok_set {xs : List Int} (h : BOk xs) (i : Nat) (y : Int) (h0 : 0 ≤ y) (h1 : y < 256) : BOk (xs.set i y) := by
  intro b hb
  rcases List.mem_or_eq_of_mem_set hb with hb | rfl
  · exact h b hb
  · exact ⟨h0, h1⟩
/-- A new box for an array that was answered. -/
theorem boxed (w : World) (ys : List Int) (hy : ys.length = 32) : Seg ((w.alloc (.cells (Ar .u8 z32) 24)).setCells w.heap.size 0 (ys.map (Value.int .u8))) w.heap.size 0 .u8 ys ∧
    Below w.heap.size w ((w.alloc (.cells (Ar .u8 z32) 24)).setCells w.heap.size 0 (ys.map (Value.int .u8))) ∧ w.heap.size < ((w.alloc (.cells (Ar .u8 z32) 24)).setCells w.heap.size 0 (ys.map (Value.int .u8))).heap.size := by
  have h0 := Seg.fresh w 24 .u8 z32
  have hs := Seg.stored (k := .u8) (w := w.alloc (.cells (Ar .u8 z32) 24)) (b := w.heap.size) (o := 0) ys (by rw [hy]; exact h0.2)
  have F := Fr.setCells (S := fun _ => False) (a := w) w.heap.size (.inl (Nat.le_refl _)) (ys.map (Value.int .u8)) 0 ((Fr.refl _ w).alloc (.cells (Ar .u8 z32) 24))
  exact ⟨hs, F.below (Nat.le_refl _) (by simp), World.block_lt_of_cell? _ _ (hs.cell 0 (by omega))⟩
theorem there_new (w : World) : (w.alloc (.cells (Ar .u8 z32) 24)).there w.heap.size 0 32 := (Seg.fresh w 24 .u8 z32).2
theorem Seg.below {w w' : World} {b o : Nat} {k : IntKind} {xs : List Int} (h : Seg w b o k xs) (f : Below w.heap.size w w') (hb : b < w.heap.size) : Seg w' b o k xs := h.keepB (f.block b hb)

theorem arr_eql (D : List Int) (h : D.length = 32) (w : World) : (Op.equalIn 10000 24 (.agg (Ar .u8 D)) (.agg (Ar .u8 D))).run Tryd.prog w = .ok true w := by
  obtain ⟨i0, hi0, _⟩ := info_parts Tryd.info5
  have := run_equal_ar (P := Tryd.prog) w 9998 24 5 32 .u8 .u8 i0 Tryd.underlying24 hi0 (by kernel_rfl) Tryd.underlying5 (Tryd.isAgg5 w) D D h h
  rw [this, beq_self_eq_true]

set_option maxHeartbeats 3200000 in
set_option maxRecDepth 100000 in
theorem sumLaw (v : Value) (B : List Int) (w : World) (hR : Rd w v B) (hB : BOk B) (hN : B.length + 72 ≤ 140737488355328) (hK : KT w) :
    Calls Tryd.prog 3 #[v] w fun e w' => e = .returned (.bool true) ∧ Below w.heap.size w w' := by
  obtain ⟨a, cap, rfl⟩ := hR.shapeR
  have hC := hide (lent_any (.slice a B.length cap) B w hR (by omega))
  have HBB := hide hB
  have HKT := hide hK
  clear hB hK
  have hz := hide Tryd.zero24
  have hlm : (B ++ marks 64).length = B.length + 64 := by rw [List.length_append, marks_length]
  have HLM := hide hlm
  have HR := hide hR
  obtain ⟨N, hNN⟩ : ∃ N, Hid (B.length = N) := ⟨_, rfl⟩
  rw [unhide hNN] at hN HR HLM hC ⊢
  clear hR hlm
  go_enter Tryd.func3, Tryd.ntmps3
  go_wp2_with fail
  refine (unhide hC).mono ?_
  rintro e w1 ⟨v', rfl, hG⟩
  have hb01 := hG.2
  obtain ⟨g, cap', rfl, hg0, hg1, hcap, hcm, hseg⟩ := own_at hG.1 (by rw [unhide HLM]; omega)
  rw [unhide HLM] at hcap ⊢
  have HS1 := hide hseg
  have HB1 := hide hb01
  have HG := hide (And.intro hg0 hg1)
  have hRd1 := (unhide HR).below hb01
  have hIn1 : Rd w1 (.slice (some ⟨g, 0, none⟩) N cap') B := by
    have := hseg.rd N cap' (by rw [unhide HLM]; omega) (by omega) hcm hg1
    rw [List.take_append_of_le_length (by rw [unhide hNN]; exact Nat.le_refl _), List.take_of_length_le (by rw [unhide hNN]; exact Nat.le_refl _)] at this
    exact this
  have HI1 := hide hIn1
  obtain ⟨D, hF⟩ : ∃ D, digF B = D := ⟨_, rfl⟩
  have hD : D.length = 32 := by rw [← hF]; exact digF_len B
  have hC2 := rsum_any _ B w1 hRd1 (unhide HBB) (by rw [unhide hNN]; exact hN)
  rw [same_sum, hF] at hC2
  have hC2 := hide hC2
  have HF := hide hF
  have HD := hide hD
  have HRd1 := hide hRd1
  have hcap2 : N ≤ cap' := by omega
  have hcapi : (N : Int) ≤ (cap' : Int) := by omega
  have Hcap := hide hcap
  clear hC hG hseg hb01 hg0 hg1 hIn1 hRd1 hF hD
  go_wp2_with fail
  refine (unhide hC2).mono ?_
  rintro e w2 ⟨rfl, hb2⟩
  have HB2 := hide hb2
  clear hC2 hb2
  go_wp2_with (first | (refine wpList_alloc_ar rfl 24 rfl (Ar .u8 z32) 32 (unhide hz) ?_) | (refine wpList_store_ar rfl 24 _ _ rfl w2.heap.size 0 rfl .u8 D 32 rfl (unhide HD) (there_new w2) Tryd.info24 ?_))
  obtain ⟨hs3, hb3, hlt3⟩ := boxed w2 D (unhide HD)
  generalize (w2.alloc (.cells (Ar .u8 z32) 24)).setCells w2.heap.size 0 (D.map (Value.int .u8)) = w3 at *
  have hb13 : Below w1.heap.size w1 w3 := (unhide HB2).trans (hb3.mono (unhide HB2).size)
  have hz13 := hb13.size
  have h0w := (unhide HKT).2
  have hC3 := dsum_any _ B w3 ((unhide HI1).below hb13) (unhide HBB) (by rw [unhide hNN]; omega) (((unhide HKT).below h0w (unhide HB1)).below (by have := (unhide HB1).size; omega) hb13)
  rw [unhide HF] at hC3
  have HP5 := hide (And.intro hs3 hlt3)
  have HB13 := hide hb13
  have hp5 : Hid (w1.heap.size ≤ w2.heap.size) := (unhide HB2).size
  generalize w2.heap.size = p5 at *
  have hC3 := hide hC3
  clear hs3 hb3 hlt3 hb13 hz13 HB2
  refine (unhide hC3).mono ?_
  rintro e w4 ⟨rfl, hb4⟩
  have HB4 := hide hb4
  clear hC3 hb4
  go_wp2_with (first | (refine wpList_alloc_ar rfl 24 rfl (Ar .u8 z32) 32 (unhide hz) ?_) | (refine wpList_store_ar rfl 24 _ _ rfl w4.heap.size 0 rfl .u8 D 32 rfl (unhide HD) (there_new w4) Tryd.info24 ?_))
  obtain ⟨hs5, hb5, hlt5⟩ := boxed w4 D (unhide HD)
  generalize (w4.alloc (.cells (Ar .u8 z32) 24)).setCells w4.heap.size 0 (D.map (Value.int .u8)) = w5 at *
  have hb35 : Below w3.heap.size w3 w5 := (unhide HB4).trans (hb5.mono (unhide HB4).size)
  have hb15 : Below w1.heap.size w1 w5 := (unhide HB13).trans (hb35.mono (unhide HB13).size)
  have hP5 : Seg w5 p5 0 .u8 D := (unhide HP5).1.below hb35 (unhide HP5).2
  have hp7 : p5 < w4.heap.size := Nat.lt_of_lt_of_le (unhide HP5).2 (unhide HB4).size
  have hL5 : Rd w5 (.slice (some ⟨g, 0, none⟩) (N + 64) cap') (B ++ marks 64) := by
    have := ((unhide HS1).below hb15 (unhide HG).2).rd (N + 64) cap' (by rw [unhide HLM]; omega) (unhide Hcap) hcm (Nat.lt_of_lt_of_le (unhide HG).2 hb15.size)
    rw [List.take_of_length_le (by rw [unhide HLM]; omega)] at this
    exact this
  have hC4 := hide (kept_any _ _ B w5 hL5 ((unhide HRd1).below hb15) (by rw [unhide hNN]; omega))
  have HS5 : Hid (Seg w5 g 0 .u8 (B ++ marks 64)) := (unhide HS1).below hb15 (unhide HG).2
  have HPs : Hid (Seg w5 p5 0 .u8 D ∧ Seg w5 w4.heap.size 0 .u8 D ∧ p5 < w4.heap.size ∧ w4.heap.size < w5.heap.size ∧ w1.heap.size ≤ p5) := ⟨hP5, hs5, hp7, hlt5, unhide hp5⟩
  have HB5 : Hid (Below w.heap.size w w5) := (unhide HB1).trans (hb15.mono (unhide HB1).size)
  have HB15 := hide hb15
  generalize w4.heap.size = p7 at *
  clear hs5 hb5 hlt5 hb35 hb15 hP5 hp7 hL5 HB4 HB13 HP5 hp5
  refine (unhide hC4).mono ?_
  rintro e w5' ⟨rfl, hw5⟩
  obtain rfl := hw5
  clear hC4
  go_wp2
  go_loopg [8] N (fun k s wr => ∃ (j : Nat) (xs : List Int), Hid (j + k = N) ∧ s = .int .i64 (j : Int) ∧ Hid (xs.length = N + 64 ∧ BOk xs) ∧ Hid (Seg wr g 0 .u8 xs) ∧ Hid (Fr (fun k => k = g) w5' wr))
  case atStart => exact ⟨0, B ++ marks 64, by unfold Hid; omega, rfl, ⟨unhide HLM, fun b hb => by rcases List.mem_append.1 hb with hb | hb; exact unhide HBB b hb; exact marks_bok 64 b hb⟩, HS5, Fr.refl _ _⟩
  case round =>
    obtain ⟨j, xs, hj, rfl, hxs, hG, hW⟩ := hrel
    by_cases hlt : j < N
    · have hc1 := (unhide hG).cell j (by rw [(unhide hxs).1]; omega)
      have hf1 := (unhide hG).frz j (by rw [(unhide hxs).1]; omega)
      rw [Nat.zero_add] at hc1 hf1
      generalize xs.getD j 0 = o1 at *
      have i1 : (0 : Int) ≤ (j : Int) := by omega
      have i2 : (j : Int) < (N : Int) := by omega
      have hst : ∀ y, Hid (Seg (wr.setCell ⟨g, j, none⟩ (.int .u8 y)) g 0 .u8 (xs.set j y) ∧ Fr (fun k => k = g) w5' (wr.setCell ⟨g, j, none⟩ (.int .u8 y))) := fun y => by
        have h1 := (unhide hG).set j (by rw [(unhide hxs).1]; omega) y
        rw [Nat.zero_add] at h1
        exact ⟨h1, (unhide hW).setCell ⟨g, j, none⟩ (.inr rfl) _⟩
      go_wp2
      go_roundg (gk - 1)
      case measure => have := unhide hj; omega
      case rel => exact ⟨j + 1, xs.set j _, by have := unhide hj; unfold Hid; omega, by go_num, ⟨by rw [List.length_set]; exact (unhide hxs).1, bok_set (unhide hxs).2 j _ (by omega) (by omega)⟩, (unhide (hst _)).1, (unhide (hst _)).2⟩
    · obtain rfl : j = N := by have := unhide hj; omega
      have hps := unhide HPs
      have hgs := unhide HG
      have hzz := (unhide hW).size
      have hgp5 : p5 ≠ g := by omega
      have hgp7 : p7 ≠ g := by omega
      have hP5 : Seg wr p5 0 .u8 D := hps.1.keepB ((unhide hW).block p5 (by omega) hgp5)
      have hP7 : Seg wr p7 0 .u8 D := hps.2.1.keepB ((unhide hW).block p7 (by omega) hgp7)
      have hgw5 : g < w5'.heap.size := Nat.lt_of_lt_of_le hgs.2 (unhide HB15).size
      have hInR : Rd wr (.slice (some ⟨g, 0, none⟩) j cap') (xs.take j) := (unhide hG).rd j cap' (by rw [(unhide hxs).1]; omega) hcap2 hcm (by omega)
      have hBw : Below w.heap.size w wr := (unhide HB5).trans ((unhide hW).below (unhide HB5).size (fun k hk e => by subst e; omega))
      have hlen : (xs.take j).length = j := by rw [List.length_take, (unhide hxs).1]; omega
      obtain ⟨C, hCC⟩ : ∃ C, xs.take j = C := ⟨_, rfl⟩
      rw [hCC] at hInR hlen
      have HL2 : Hid (Seg wr p5 0 .u8 D ∧ Seg wr p7 0 .u8 D ∧ p5 < wr.heap.size ∧ p7 < wr.heap.size ∧ g < wr.heap.size) := ⟨hP5, hP7, by omega, by omega, by omega⟩
      have HBw := hide hBw
      have HBC : Hid (BOk C) := fun b hb => (unhide hxs).2 b (by rw [← hCC] at hb; exact List.mem_of_mem_take hb)
      have HIn := hide hInR
      have HLn := hide hlen
      have hC5 := hide (copyBytes_any _ C wr hInR (by rw [hlen]; omega))
      clear hps hgs hzz hgp5 hgp7 hP5 hP7 hgw5 hInR hBw hlen hCC HPs HS5 hG hW HB5 HB15 HI1 HRd1 HR HB1 HS1 HG HF hxs HLM hNN
      go_wp2_with fail
      refine (unhide hC5).mono ?_
      rintro e w6 ⟨v6, rfl, hG6⟩
      obtain ⟨D2, hF2⟩ : ∃ D, digF C = D := ⟨_, rfl⟩
      have hD2 : D2.length = 32 := by rw [← hF2]; exact digF_len C
      have hC6 := rsum_any _ C w6 (Rd.of_own hG6.1) (unhide HBC) (by rw [unhide HLn]; omega)
      rw [same_sum, hF2] at hC6
      have hC6 := hide hC6
      have HF2 := hide hF2
      have HD2 := hide hD2
      have HB6 := hide hG6.2
      clear hC5 hG6 hF2 hD2
      go_wp2_with fail
      refine (unhide hC6).mono ?_
      rintro e w7 ⟨rfl, hb7⟩
      have HB7 := hide hb7
      clear hC6 hb7
      go_wp2_with (first | (refine wpList_alloc_ar rfl 24 rfl (Ar .u8 z32) 32 (unhide hz) ?_) | (refine wpList_store_ar rfl 24 _ _ rfl w7.heap.size 0 rfl .u8 D2 32 rfl (unhide HD2) (there_new w7) Tryd.info24 ?_))
      obtain ⟨hs8, hb8, hlt8⟩ := boxed w7 D2 (unhide HD2)
      generalize (w7.alloc (.cells (Ar .u8 z32) 24)).setCells w7.heap.size 0 (D2.map (Value.int .u8)) = w8 at *
      have hbr7 : Below wr.heap.size wr w7 := (unhide HB6).trans ((unhide HB7).mono (unhide HB6).size)
      have hbr8 : Below wr.heap.size wr w8 := hbr7.trans (hb8.mono hbr7.size)
      have hC8 := dsum_any _ C w8 ((unhide HIn).below hbr8) (unhide HBC) (by rw [unhide HLn]; omega) (((unhide HKT).below (unhide HKT).2 (unhide HBw)).below (by have := (unhide HKT).2; have := (unhide HBw).size; omega) hbr8)
      rw [unhide HF2] at hC8
      have hC8 := hide hC8
      have hl2 := unhide HL2
      have HP8 : Hid (Seg w8 p5 0 .u8 D ∧ Seg w8 p7 0 .u8 D ∧ Seg w8 w7.heap.size 0 .u8 D2 ∧ p5 < w8.heap.size ∧ p7 < w8.heap.size ∧ w7.heap.size < w8.heap.size) := by
        have := hbr8.size
        exact ⟨hl2.1.below hbr8 hl2.2.2.1, hl2.2.1.below hbr8 hl2.2.2.2.1, hs8, by omega, by omega, hlt8⟩
      have HB8 : Hid (Below w.heap.size w w8) := (unhide HBw).trans (hbr8.mono (unhide HBw).size)
      generalize w7.heap.size = p11 at *
      clear hs8 hb8 hlt8 hbr7 hbr8 hl2 HL2 HB7 HB6 HBw HIn
      refine (unhide hC8).mono ?_
      rintro e w9 ⟨rfl, hb9⟩
      have HB9 := hide hb9
      clear hC8 hb9
      have hp8 := unhide HP8
      have h95 := hp8.1.below (unhide HB9) hp8.2.2.2.1
      have h97 := hp8.2.1.below (unhide HB9) hp8.2.2.2.2.1
      have h911 := hp8.2.2.1.below (unhide HB9) hp8.2.2.2.2.2
      have hz9 := (unhide HB9).size
      have hl9 : p5 < w9.heap.size ∧ p7 < w9.heap.size ∧ p11 < w9.heap.size := by omega
      obtain ⟨hs10, hb10, hlt10⟩ := boxed w9 D2 (unhide HD2)
      have HQ : Hid (Seg ((w9.alloc (.cells (Ar .u8 z32) 24)).setCells w9.heap.size 0 (D2.map (Value.int .u8))) p5 0 .u8 D ∧ Seg ((w9.alloc (.cells (Ar .u8 z32) 24)).setCells w9.heap.size 0 (D2.map (Value.int .u8))) p7 0 .u8 D ∧ Seg ((w9.alloc (.cells (Ar .u8 z32) 24)).setCells w9.heap.size 0 (D2.map (Value.int .u8))) p11 0 .u8 D2 ∧ Seg ((w9.alloc (.cells (Ar .u8 z32) 24)).setCells w9.heap.size 0 (D2.map (Value.int .u8))) w9.heap.size 0 .u8 D2) :=
        ⟨h95.below hb10 hl9.1, h97.below hb10 hl9.2.1, h911.below hb10 hl9.2.2, hs10⟩
      have HBL : Hid (Below w.heap.size w ((w9.alloc (.cells (Ar .u8 z32) 24)).setCells w9.heap.size 0 (D2.map (Value.int .u8)))) :=
        (unhide HB8).trans (((unhide HB9).trans (hb10.mono (unhide HB9).size)).mono (unhide HB8).size)
      have hne1 : p5 ≠ p7 ∨ True := .inr trivial
      clear hp8 h95 h97 h911 hz9 hl9 hs10 hb10 hlt10 HP8 HB8 HB9 hne1
      have e1 := arr_eql D (unhide HD)
      have e2 := arr_eql D2 (unhide HD2)
      go_wp2_with (first | (refine wpList_alloc_ar rfl 24 rfl (Ar .u8 z32) 32 (unhide hz) ?_) | (refine wpList_store_ar rfl 24 _ _ rfl w9.heap.size 0 rfl .u8 D2 32 rfl (unhide HD2) (there_new w9) Tryd.info24 ?_) | (refine wpList_load_arw rfl 24 _ rfl p7 0 rfl .u8 D _ 32 (unhide HQ).2.1 (unhide HD) Tryd.underlying24 rfl Tryd.info24 ?_) | (refine wpList_load_arw rfl 24 _ rfl p5 0 rfl .u8 D _ 32 (unhide HQ).1 (unhide HD) Tryd.underlying24 rfl Tryd.info24 ?_) | (refine wpList_load_arw rfl 24 _ rfl p11 0 rfl .u8 D2 _ 32 (unhide HQ).2.2.1 (unhide HD2) Tryd.underlying24 rfl Tryd.info24 ?_) | (refine wpList_load_arw rfl 24 _ rfl w9.heap.size 0 rfl .u8 D2 _ 32 (unhide HQ).2.2.2 (unhide HD2) Tryd.underlying24 rfl Tryd.info24 ?_))

      go_ret
      exact ⟨rfl, unhide HBL⟩
end Go.Proofs.YtlkcjimkgebeiaaDoor
