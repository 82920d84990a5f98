/-
  DigestPieces.
-/
import Derived.Test.YtlkcjimkgebeiaaDoorPRow
import Derived.Test.YtlkcjimkgebeiaaDoorShown
import Derived.Test.YtlkcjimkgebeiaaDoorSumLaw
namespace Go.Proofs.YtlkcjimkgebeiaaDoor
open Go.RowKit

set_option maxHeartbeats 3200000 in
set_option maxRecDepth 100000 in
theorem piecesLaw (rw0 : Value) (ps : List Pc) (w : World) (hrow : RdV w rw0 ps) (hM : ps.length ≤ 140737488355328) (hK : KT w) :
    Calls Tryd.prog 6 #[rw0] w fun e w' => e = .returned (.bool true) ∧ Below w.heap.size w w' := by
  obtain ⟨a1, cap1, rfl, hcell⟩ := hrow
  have HC := hide hcell
  have HK := hide hK
  have hz := hide Tryd.zero24
  obtain ⟨M, hMM⟩ : ∃ M, Hid (ps.length = M) := ⟨_, rfl⟩
  rw [unhide hMM] at hM ⊢
  clear hcell hK
  go_enter Tryd.func6, Tryd.ntmps6
  go_wp2_with fail
  refine (new_any _).mono ?_
  rintro e w1 ⟨p, rfl, hp, hHs, hb1⟩
  have HP1 : Hid (HP p [] w1) := ⟨_, _, _, _, _, hHs, FD.start, TD.start⟩
  have HB1 := hide hb1
  have HKT1 := hide ((unhide HK).below (unhide HK).2 hb1)
  have hp0 : 0 < p := Nat.lt_of_lt_of_le (unhide HK).2 hp
  have hSh := hide (shown_any w1 (unhide HKT1))
  clear hHs hb1
  go_wp2_with fail
  refine (unhide hSh).mono ?_
  rintro e W ⟨rfl, hb2⟩
  have HBW : Hid (Below w.heap.size w W) := (unhide HB1).trans (hb2.mono (unhide HB1).size)
  have HPW : Hid (HP p [] W) := (unhide HP1).keepB (hb2.block p (unhide HP1).lt)
  clear hb2 hSh HP1 HKT1 HB1
  go_wp2
  go_loopg [4, 5] M (fun k s4 s5 wr => ∃ (j L : Nat), Hid (j + k = M) ∧ s4 = .int .i64 (L : Int) ∧ s5 = .int .i64 (j : Int) ∧ Hid ((cat ps j).length = L) ∧ L ≤ 281474976710656 ∧ wr = W)
  case atStart => exact ⟨0, 0, by unfold Hid; omega, rfl, rfl, rfl, by omega, rfl⟩
  case round =>
    obtain ⟨j, L, hj, rfl, rfl, hL, hL2, hw⟩ := hrel
    have hw := hw.symm
    subst hw
    by_cases hlt : j < M
    · by_cases hbig : L ≤ 16777216
      · obtain ⟨⟨hRd, hBk, hlen⟩, cb, co, rfl, hcb, hc0⟩ := unhide HC j (by rw [unhide hMM]; exact hlt)
        have hk0 := ((unhide HBW).cell (p := ⟨cb, co + j, none⟩) hcb).trans hc0
        have hcat : Hid ((cat ps (j + 1)).length = L + (ps.getD j Pc.zero).bs.length) := by rw [Hid, cat, List.length_append, unhide hL]
        have i0 : (0 : Int) ≤ (j : Int) := by omega
        have i1 : (j : Int) < (M : Int) := by omega
        have i2 : (L : Int) ≤ 16777216 := by omega
        generalize ps.getD j Pc.zero = q at hRd hBk hlen hk0 hcat hc0
        obtain ⟨qv, qb⟩ := q
        dsimp only at hk0 hlen hcat hRd
        obtain ⟨qa, qcap, rfl⟩ := hRd.shapeR
        generalize qb.length = ql at hk0 hlen hcat
        clear hRd hBk hc0
        go_wp2
        go_roundg (gk - 1)
        case measure => have := unhide hj; omega
        case rel => exact ⟨j + 1, L + ql, by have := unhide hj; unfold Hid; omega, by go_num, by go_num, hcat, by omega, rfl⟩
      · have i1 : (j : Int) < (M : Int) := by omega
        have i2 : ¬ (L : Int) ≤ 16777216 := by omega
        have i3 : (16777216 : Int) < (L : Int) := by omega
        go_wp2
        go_ret
        exact ⟨rfl, unhide HBW⟩
    · have hjM : M = j := by have := unhide hj; omega
      subst hjM
      by_cases hbig : L ≤ 16777216
      · have i2 : (L : Int) ≤ 16777216 := by omega
        have i3 : ¬ (16777216 : Int) < (L : Int) := by omega
        have hcl : Hid (∀ i, i ≤ M → (cat ps i).length ≤ 16777216) := fun i hi => by
          have := cat_mono ps i (M - i)
          rw [show i + (M - i) = M from by omega, unhide hL] at this
          omega
        have hpW := (unhide HPW).lt
        have hPS0 : Hid (PS w W p (cat ps 0) (.slice none 0 0) W) := ⟨unhide HPW, World.ownsRow_nil _ _ _ _, unhide HBW, Nat.le_refl _⟩
        have hcb : Hid (∀ i, i ≤ M → BOk (cat ps i)) := fun i hi => cat_bok ps (fun i hi => (unhide HC i hi).1.2.1) i (by rw [unhide hMM]; exact hi)
        clear HPW HBW hL hL2 hj hbig hlt
        go_wp2
        go_loopg [6, 7] M (fun k s6 s7 wr => ∃ (j : Nat), Hid (j + k = M) ∧ s7 = .int .i64 (j : Int) ∧ Hid (PS w W p (cat ps j) s6 wr))
        case atStart => exact ⟨0, by unfold Hid; omega, rfl, hPS0⟩
        case round =>
          obtain ⟨j, hj, rfl, hO⟩ := hrel
          by_cases hlt : j < M
          · obtain ⟨⟨hRd, hBk, hlen⟩, cb, co, rfl, hcb0, hc0⟩ := unhide HC j (by rw [unhide hMM]; exact hlt)
            have hk0 := ((unhide hO).bel.cell (p := ⟨cb, co + j, none⟩) hcb0).trans hc0
            have hcat : Hid (cat ps (j + 1) = cat ps j ++ (ps.getD j Pc.zero).bs) := rfl
            have hcl1 := unhide hcl (j + 1) hlt
            have hcb1 := hide (unhide hcb (j + 1) hlt)
            have i0 : (0 : Int) ≤ (j : Int) := by omega
            have i1 : (j : Int) < (M : Int) := by omega
            generalize ps.getD j Pc.zero = q at hRd hBk hlen hk0 hcat hc0
            obtain ⟨qv, qb⟩ := q
            dsimp only at hRd hBk hlen hk0 hcat hc0
            rw [unhide hcat] at hcl1 hcb1
            rw [List.length_append] at hcl1
            have hC1 := hide (write_pr p (cat ps j) qv qb w wr (unhide hO).hp hRd (unhide hO).bel hp ((unhide HK).below (unhide HK).2 (unhide hO).bel) hBk hp0 (by omega) hlen)
            have HRd := hide hRd
            clear hRd hBk
            go_wp2_with fail
            refine (unhide hC1).mono ?_
            rintro e w2 ⟨rfl, hH2, hF2⟩
            have hb2 : Below w.heap.size w w2 := (unhide hO).bel.trans (hF2.below (unhide hO).bel.size (fun k hk e => by omega))
            have hk2 := (hb2.cell (p := ⟨cb, co + j, none⟩) hcb0).trans hc0
            have hR2 := hide ((unhide HRd).below hb2)
            have HOw : Hid (w2.ownsRow W.heap.size 5 1 u6 (cat ps j).length ((cat ps j).map By)) := own_keepB (unhide hO).own (fun g hg => hF2.block g ((unhide hO).own.lt g hg).2 (by have := ((unhide hO).own.lt g hg).1; omega))
            have HWs : W.heap.size ≤ w2.heap.size := Nat.le_trans (unhide hO).fr hF2.size
            have HH2 := hide hH2
            have HF2 := hide hF2
            clear hk0 hC1 hb2 hH2 hF2 hc0
            go_wp2_with (first | (at_builtin; refine wpList_append_pc rfl _ _ rfl W.heap.size u6 qv (cat ps j) qb rfl rfl (unhide HOw) (unhide hR2) (by omega) HWs ?_))
            intro v3 w3 hown3 hg3
            have HP3 := hide ((unhide hO).written hp hpW (unhide HH2) (unhide HF2) (by rw [List.length_append, List.map_append]; exact hown3) hg3)
            clear hown3 hg3 HH2 HF2 HOw hR2 HWs hO HRd hk2
            rw [← unhide hcat] at HP3 hcb1
            rw [← List.length_append, ← unhide hcat] at hcl1
            have HK3 := (unhide HK).below (unhide HK).2 (unhide HP3).bel
            have hC3 := dsum_any v3 (cat ps (j + 1)) w3 (Rd.of_own (unhide HP3).own) (unhide hcb1) (by omega) HK3
            obtain ⟨D, hF⟩ : ∃ D, digF (cat ps (j + 1)) = D := ⟨_, rfl⟩
            have hD : D.length = 32 := by rw [← hF]; exact digF_len _
            rw [hF] at hC3
            have hC3 := hide hC3
            have HF := hide hF
            have HD := hide hD
            clear hF hD HK3 hcat
            go_wp2_with fail
            refine (unhide hC3).mono ?_
            rintro e w4 ⟨rfl, hb4⟩
            have HP4 := hide ((unhide HP3).below hb4)
            clear hC3 hb4 HP3
            go_wp2_with (first | (refine wpList_alloc_ar rfl 24 rfl (Ar .u8 z32) 32 (unhide hz) ?_) | (refine wpList_store_ar rfl 24 _ _ rfl w4.heap.size 0 rfl .u8 D 32 rfl (unhide HD) (there_new w4) Tryd.info24 ?_))
            obtain ⟨hs5, hb5, hlt5⟩ := boxed w4 D (unhide HD)
            generalize (w4.alloc (.cells (Ar .u8 z32) 24)).setCells w4.heap.size 0 (D.map (Value.int .u8)) = w5 at *
            have HP5 := hide ((unhide HP4).below hb5)
            have HS5 : Hid (Seg w5 w4.heap.size 0 .u8 D ∧ w4.heap.size < w5.heap.size ∧ p < w4.heap.size) := ⟨hs5, hlt5, Nat.lt_of_lt_of_le hpW (unhide HP4).fr⟩
            generalize w4.heap.size = p8 at *
            clear hs5 hb5 hlt5 HP4
            have hC5 := hsum_hp p (cat ps (j + 1)) w5 (unhide HP5).hp ((unhide HK).below (unhide HK).2 (unhide HP5).bel) hp0 (by omega)
            rw [unhide HF] at hC5
            have hC5 := hide hC5
            refine (unhide hC5).mono ?_
            rintro e w6 ⟨rfl, hH6, hF6⟩
            have HP6 := hide ((unhide HP5).summed hp hpW hH6 hF6)
            have HS6 : Hid (Seg w6 p8 0 .u8 D ∧ p8 < w6.heap.size ∧ p < p8) := by
              have h := unhide HS5
              exact ⟨h.1.keepB (hF6.block p8 h.2.1 (by omega)), Nat.lt_of_lt_of_le h.2.1 hF6.size, h.2.2⟩
            clear hC5 hH6 hF6 HP5 HS5
            go_wp2_with (first | (refine wpList_alloc_ar rfl 24 rfl (Ar .u8 z32) 32 (unhide hz) ?_) | (refine wpList_store_ar rfl 24 _ _ rfl w6.heap.size 0 rfl .u8 D 32 rfl (unhide HD) (there_new w6) Tryd.info24 ?_))
            obtain ⟨hs7, hb7, hlt7⟩ := boxed w6 D (unhide HD)
            generalize (w6.alloc (.cells (Ar .u8 z32) 24)).setCells w6.heap.size 0 (D.map (Value.int .u8)) = w7 at *
            have HP7 := hide ((unhide HP6).below hb7)
            have HS7 : Hid (Seg w7 p8 0 .u8 D ∧ Seg w7 w6.heap.size 0 .u8 D ∧ p8 < w7.heap.size ∧ w6.heap.size < w7.heap.size ∧ p < p8 ∧ p < w6.heap.size) := by
              have h := unhide HS6
              exact ⟨h.1.below hb7 h.2.1, hs7, by omega, hlt7, h.2.2, by omega⟩
            generalize w6.heap.size = p9 at *
            clear hs7 hb7 hlt7 HP6 HS6
            have hC7 := hsum_hp p (cat ps (j + 1)) w7 (unhide HP7).hp ((unhide HK).below (unhide HK).2 (unhide HP7).bel) hp0 (by omega)
            rw [unhide HF] at hC7
            have hC7 := hide hC7
            refine (unhide hC7).mono ?_
            rintro e w8 ⟨rfl, hH8, hF8⟩
            have HP8 := (unhide HP7).summed hp hpW hH8 hF8
            obtain ⟨hs9, hb9, hlt9⟩ := boxed w8 D (unhide HD)
            have HQ : Hid (Seg ((w8.alloc (.cells (Ar .u8 z32) 24)).setCells w8.heap.size 0 (D.map (Value.int .u8))) p8 0 .u8 D ∧ Seg ((w8.alloc (.cells (Ar .u8 z32) 24)).setCells w8.heap.size 0 (D.map (Value.int .u8))) p9 0 .u8 D ∧ Seg ((w8.alloc (.cells (Ar .u8 z32) 24)).setCells w8.heap.size 0 (D.map (Value.int .u8))) w8.heap.size 0 .u8 D) := by
              have h := unhide HS7
              have hz8 := hF8.size
              exact ⟨(h.1.keepB (hF8.block p8 h.2.2.1 (by omega))).below hb9 (by omega), (h.2.1.keepB (hF8.block p9 h.2.2.2.1 (by omega))).below hb9 (by omega), hs9⟩
            have HP9 := hide (HP8.below hb9)
            clear hC7 hH8 hF8 HP8 hs9 hb9 hlt9 HP7 HS7
            have e1 := arr_eql D (unhide HD)
            go_wp2_with (first | (refine wpList_alloc_ar rfl 24 rfl (Ar .u8 z32) 32 (unhide hz) ?_) | (refine wpList_store_ar rfl 24 _ _ rfl w8.heap.size 0 rfl .u8 D 32 rfl (unhide HD) (there_new w8) Tryd.info24 ?_) | (refine wpList_load_arw rfl 24 _ rfl p8 0 rfl .u8 D _ 32 (unhide HQ).1 (unhide HD) Tryd.underlying24 rfl Tryd.info24 ?_) | (refine wpList_load_arw rfl 24 _ rfl p9 0 rfl .u8 D _ 32 (unhide HQ).2.1 (unhide HD) Tryd.underlying24 rfl Tryd.info24 ?_) | (refine wpList_load_arw rfl 24 _ rfl w8.heap.size 0 rfl .u8 D _ 32 (unhide HQ).2.2 (unhide HD) Tryd.underlying24 rfl Tryd.info24 ?_))
            go_roundg (gk - 1)
            case measure => have := unhide hj; omega
            case rel => exact ⟨j + 1, by have := unhide hj; unfold Hid; omega, by go_num, HP9⟩
          · have hjM : M = j := by have := unhide hj; omega
            subst hjM
            have hclM := unhide hcl M (Nat.le_refl _)
            obtain ⟨D, hF⟩ : ∃ D, digF (cat ps M) = D := ⟨_, rfl⟩
            have hD : D.length = 32 := by rw [← hF]; exact digF_len _
            have hC := hsum_hp p (cat ps M) wr (unhide hO).hp ((unhide HK).below (unhide HK).2 (unhide hO).bel) hp0 (by omega)
            rw [hF] at hC
            have hC := hide hC
            have HF := hide hF
            have HD := hide hD
            clear hF hD
            go_wp2_with fail
            refine (unhide hC).mono ?_
            rintro e w2 ⟨rfl, hH2, hF2⟩
            have HP2 := hide ((unhide hO).summed hp hpW hH2 hF2)
            have hC2 := dsum_any u6 (cat ps M) w2 (Rd.of_own (unhide HP2).own) (unhide hcb M (Nat.le_refl _)) (by omega) ((unhide HK).below (unhide HK).2 (unhide HP2).bel)
            rw [unhide HF] at hC2
            have hC2 := hide hC2
            clear hC hH2 hF2
            go_wp2_with fail
            refine (unhide hC2).mono ?_
            rintro e w3 ⟨rfl, hb3⟩
            have HP3 := hide ((unhide HP2).below hb3)
            clear hC2 hb3
            have e1 := arr_eql D (unhide HD)
            go_wp2
            go_ret
            exact ⟨rfl, (unhide HP3).bel⟩
      · have i3 : (16777216 : Int) < (L : Int) := by omega
        go_wp2
        go_ret
        exact ⟨rfl, unhide HBW⟩
end Go.Proofs.YtlkcjimkgebeiaaDoor
