/-
  Decode.
-/
import Derived.Test.YtclcebdcdbcpjaaGreatD4
namespace Go.Proofs.YtclcebdcdbcpjaaGreat
open Go.RowKit
set_option linter.unusedVariables false
set_option linter.unusedSimpArgs false
theorem rres_off {zero : Value} {o : Except Int (Value × List Int)} {bs : List Int} {e0 : Int} (h : e0 ≠ 0) : rres zero o bs e0 = (zero, bs, e0) := by unfold rres; rw [if_neg h]
/-- Two boxes and a reader. -/
structure FQ (w : World) (r rb B : Nat) (gv v : Value) (bs : List Int) (ee : Int) (wr : World) : Prop where
  fr : Fr (fun k => k = r) w wr
  b2 : wr.heap[w.heap.size]? = some (.cells #[.slice none 0 0] 25)
  b5 : wr.heap[B]? = some (.cells #[gv] 25)
  rd : Rdr wr r rb v bs ee
  hr : r < w.heap.size
  hb : rb < w.heap.size
  hB : w.heap.size < B
section
variable {w wr w' : World} {r rb B : Nat} {gv v : Value} {bs : List Int} {ee : Int}
theorem FQ.drew (h : FQ w r rb B gv v bs ee wr) : FQ w r rb B gv v bs ee wr.drew :=
  ⟨h.fr.drew, h.b2, h.b5, h.rd.keep (S := fun _ => False) (Fr.refl _ wr).drew (by simp) (by simp), h.hr, h.hb, h.hB⟩
theorem FQ.store (h : FQ w r rb B gv v bs ee wr) : (wr.setCell ⟨w.heap.size, 0, none⟩ gv).heap[w.heap.size]? = some (.cells #[gv] 25) ∧ (wr.setCell ⟨w.heap.size, 0, none⟩ gv).heap[B]? = some (.cells #[gv] 25) ∧ Fr (fun k => k = r) w (wr.setCell ⟨w.heap.size, 0, none⟩ gv) := by
  have h1 := h.hB
  have fz : Fr (fun k => k = w.heap.size) wr (wr.setCell ⟨w.heap.size, 0, none⟩ gv) := Fr.setCell (S := fun k => k = w.heap.size) (Fr.refl _ wr) ⟨w.heap.size, 0, none⟩ (.inr rfl) gv
  exact ⟨by rw [setCell_block h.b2 gv]; rfl, (fz.block B (blk_cells h.b5).2.2 (by show ¬ B = w.heap.size; omega)).trans h.b5, h.fr.comp fz (fun i hi e => by omega)⟩
end
theorem MQ.fq {w wr : World} {r rb B : Nat} {gv v : Value} {f : List (List Sp)} {vs : List Value} {bs : List Int} (h : MQ w r rb B gv f vs bs wr) (hv : Rdr wr r rb v bs 0) : FQ w r rb B gv v bs 0 wr := ⟨h.fr, h.b2, h.b5, hv, h.hr, h.hb, h.hB⟩
set_option maxRecDepth 100000 in
set_option maxHeartbeats 12800000 in
theorem readProfile_any (r : Nat) {rb : Nat} (v : Value) (bs : List Int) (w : World) (h : Rdr w r rb v bs 0) (hB : BOk bs) (hrb : rb < w.heap.size) (hbl : bs.length ≤ 140737488355328) :
    Calls Tryz.prog 18 #[.pointer (some ⟨r, 0, none⟩)] w (PrP r w (decP bs)) := by
  have hr := h.lt
  have hra := h.alloc (.cells #[.slice none 0 0] 25)
  have HB2 := hide (heap_alloc_new w (.cells #[.slice none 0 0] 25))
  have HFR0 := hide ((Fr.refl (fun k => k = r) w).alloc (.cells #[.slice none 0 0] 25))
  have HOK := hide hB
  by_cases h4 : bs.length < 4
  · have HO : Hid (decP bs = .error 2) := by unfold Hid decP; rw [if_pos h4]
    have HRAW := hide (rRaw_bad r v bs 0 4 (w.alloc (.cells #[.slice none 0 0] 25)) hra (.inr (.inr (by omega))))
    rw [show rawErr 4 0 = 2 from rfl] at HRAW
    clear h hB hra
    go_enter Tryz.func18, Tryz.ntmps18
    go_wp2_with fail
    refine (unhide HRAW).mono ?_
    rintro e w1 ⟨rfl, v2, hv2, f2⟩
    dsimp only at hv2 ⊢
    have hb2 := (f2.block w.heap.size (by simp) (by show ¬ w.heap.size = r; omega)).trans (unhide HB2)
    have hsz := (blk_cells hb2).2.2
    have hcv := str_conv w1 (.slice none 0 0) [] (.inl ⟨rfl, rfl⟩) (by intro x hx; simp at hx)
    have HER := hide (rErr_any r v2 bs 2 w1 hv2)
    have d2 : ((2 : Int) == 0) = false := rfl
    have HFQ0 : Hid (FQ w r rb w1.heap.size (.slice none 0 0) v2 bs 2 (w1.alloc (.cells #[.slice none 0 0] 25))) := ⟨((unhide HFR0).trans f2).alloc _, (Below.heap_alloc _ _ _ hsz).trans hb2, heap_alloc_new w1 _, hv2.alloc _, hr, hrb, hsz⟩
    have HCO := hide (rCount_any r v2 bs 2 128 (w1.alloc (.cells #[.slice none 0 0] 25)) (hv2.alloc _) (unhide HOK) (by omega))
    rw [rres_off (by decide)] at HCO
    clear HRAW f2 hv2 hb2 HB2 HFR0
    go_wp2_with fail
    refine (unhide HER).mono ?_
    rintro e w2 ⟨rfl, e2⟩
    subst e2
    go_wp2_with fail
    refine (unhide HCO).mono ?_
    rintro e w3 ⟨rfl, v3, hv3, f3⟩
    dsimp only at hv3 ⊢
    obtain ⟨B, hBB⟩ : ∃ B, Hid (w2.heap.size = B) := ⟨_, hide rfl⟩
    rw [unhide hBB] at HFQ0 ⊢
    have HFQ3 : Hid (FQ w r rb B (.slice none 0 0) v3 bs 2 w3) := by
      have q := unhide HFQ0
      have hBw := q.hB
      exact ⟨q.fr.trans f3, (f3.block _ (blk_cells q.b2).2.2 (by show ¬ w.heap.size = r; omega)).trans q.b2, (f3.block _ (blk_cells q.b5).2.2 (by show ¬ B = r; omega)).trans q.b5, hv3, q.hr, q.hb, q.hB⟩
    clear hv3 f3 HFQ0 HER HCO hcv hsz
    go_wp2_with fail
    go_loopg [21] 0 (fun gg t21 wr => t21 = .int .i64 0 ∧ wr = w3 ∧ gg = 0)
    case atStart => exact ⟨rfl, rfl, rfl⟩
    case round =>
      obtain ⟨rfl, hwr, rfl⟩ := hrel
      subst hwr
      obtain ⟨bq, hbq⟩ : ∃ bq, bq = bs := ⟨_, rfl⟩
      obtain ⟨ee, hee0⟩ : ∃ ee : Int, ee = 2 := ⟨_, rfl⟩
      have HFQ : Hid (FQ w r rb B (.slice none 0 0) v3 bq ee wr) := by rw [hbq, hee0]; exact HFQ3
      have hee : rEnd bq ee = 2 := by rw [hee0]; rfl
      clear HFQ3 hbq hee0
      obtain ⟨c1, c2, c3⟩ := blk_cells (unhide HFQ).b5
      have HSD : Hid (wr.drew.cell? ⟨B, 0, none⟩ = some (.slice none 0 0)) := c1 0
      have hqv := (unhide HFQ).drew
      obtain ⟨V, hV⟩ : ∃ V, Hid (wr.drew = V) := ⟨_, hide rfl⟩
      have HSV := HSD
      rw [unhide hV] at HSV hqv
      have HEN := hide (rEnd_any r v3 bq ee V hqv.rd)
      rw [hee] at HEN
      obtain ⟨d1, d2, d3⟩ := blk_cells hqv.b2
      have v0 := d1 0
      have g0 := d2 0
      simp at v0
      obtain ⟨q1, q2, q3⟩ := hqv.store
      obtain ⟨Z, hZ⟩ : ∃ Z, Hid (V.setCell ⟨w.heap.size, 0, none⟩ (.slice none 0 0) = Z) := ⟨_, hide rfl⟩
      rw [unhide hZ] at q1 q2 q3
      have HSz : Hid (Z.cell? ⟨B, 0, none⟩ = some (.slice none 0 0)) := (blk_cells q2).1 0
      have HFZ := hide q3
      obtain ⟨y1, y2, y3⟩ := blk_cells q1
      have m0 := y1 0
      simp at m0
      have HFQ' := HFQ
      clear c1 c2 d1 d2 y1 y2 q1 q2 q3 hqv HFQ 
      go_wp2_with fail
      refine wp_region_held_drew (S := (fun W => W.cell? ⟨B, 0, none⟩ = some (.slice none 0 0))) (by kernel_rfl) (unhide HSD) (fun hHeld => ?_)
      clear hHeld
      rw [unhide hV]
      refine wpAnyH_take (i := 0) (oi := _) (v := .agg #[.slice none 0 0]) rfl (by kernel_rfl) (by kernel_rfl) (by kernel_rfl) (fun _ _ _ h => h) (Or.inl ⟨by rfl, (by intro w' hSw; have s0 := hSw; go_simp)⟩) (unhide HSV) ?_
      go_simp
      refine wpAnyH_take (i := 1) (oi := _) (v := .pointer (some ⟨r, 0, none⟩)) rfl (by kernel_rfl) (by kernel_rfl) (by kernel_rfl) (fun _ _ _ h => h) (Or.inl ⟨by rfl, (by intro w' hSw; have s0 := hSw; go_simp)⟩) (unhide HSV) ?_
      go_simp
      refine wpAnyH_ready (rs := [2]) (by kernel_rfl) (by simp) ?_
      refine AllReadyH.cons (o := _) rfl (fun K hK => ?_) AllReadyH.nil
      go_simp
      refine (unhide HEN).mono ?_
      rintro e w3 ⟨rfl, hw3⟩
      subst hw3
      go_simp
      refine hK.out _ _ (unhide HSV) (fun _ => ?_)
      clear hK K
      go_simp
      refine wpAnyH_ready (rs := [3]) (by kernel_rfl) (by simp) ?_
      refine AllReadyH.cons (o := _) rfl (fun K hK => ?_) AllReadyH.nil
      go_simp
      rw [unhide hZ]
      refine hK.out _ _ (unhide HSz) (fun _ => ?_)
      clear hK K
      go_simp
      refine wpAnyH_take (i := 4) (oi := _) (v := .int .i64 2) rfl (by kernel_rfl) (by kernel_rfl) (by kernel_rfl) (fun _ _ _ h => h) (Or.inl ⟨by rfl, (by intro w' hSw; have s0 := hSw; go_simp)⟩) (unhide HSz) ?_
      go_simp
      refine wpAnyH_done (by kernel_rfl) ?_ _
      go_wp2_with fail
      refine bodyPost_ret (v := .tuple #[.agg #[.slice none 0 0], .int .i64 2]) ?_ rfl ?_
      · rw [results_cell_tmp rfl]
        go_simp
      · show PrP r w (decP bs) _ _
        rw [unhide HO]
        exact ⟨unhide HFZ, by decide, _, _, _, rfl⟩
  · have h4' : ¬ bs.length < 4 := h4
    have HRAW := hide (rRaw_good r v bs 4 (w.alloc (.cells #[.slice none 0 0] 25)) hra hbl (by omega))
    clear h hB hra
    have hOKt : BOk (bs.take 4) := fun x hx => unhide HOK x (List.mem_of_mem_take hx)
    have HOKd : Hid (BOk (bs.drop 4)) := fun x hx => unhide HOK x (List.mem_of_mem_drop hx)
    have hlt4 : (bs.take 4).length = 4 := by rw [List.length_take]; omega
    go_enter Tryz.func18, Tryz.ntmps18
    go_wp2_with fail
    refine (unhide HRAW).mono ?_
    rintro e w1 ⟨val, rfl, hval, v2, hv2, f2⟩
    have hb2 := (f2.block w.heap.size (by simp) (by show ¬ w.heap.size = r; omega)).trans (unhide HB2)
    have hsz := (blk_cells hb2).2.2
    have hcv := str_conv w1 val (bs.take 4) (Rd.of_own (by rw [hlt4]; exact hval)) hOKt
    have hval1 : val.oneCell' = true := by
      rcases hval.2 with ⟨e, _⟩ | ⟨_, _, _, e, _⟩ <;> rw [e] <;> rfl
    have HER := hide (rErr_any r v2 _ 0 w1 hv2)
    have d0 : ((0 : Int) == 0) = true := rfl
    have HRD2 := hide hv2
    have HF2 := hide ((unhide HFR0).trans f2)
    obtain ⟨s, hs⟩ : ∃ s, Hid (toStr (bs.take 4) = s) := ⟨_, hide rfl⟩
    rw [unhide hs] at hcv
    by_cases hsg : bs.take 4 = sgn4
    · have HO0 : Hid (decP bs = decT (bs.drop 4)) := by unfold Hid decP; rw [if_neg h4', if_pos hsg]
      have hsl : s.toList = [80, 84, 70, 1] := by rw [← unhide hs, hsg, toStr_sgn, ByteArray.toList_eq]; rfl
      have HFQ0 : Hid (FQ w r rb w1.heap.size (.slice none 0 0) v2 (bs.drop 4) 0 (w1.alloc (.cells #[.slice none 0 0] 25))) := ⟨(unhide HF2).alloc _, (Below.heap_alloc _ _ _ hsz).trans hb2, heap_alloc_new w1 _, (unhide HRD2).alloc _, hr, hrb, hsz⟩
      have HCO := hide (rCount_any r v2 (bs.drop 4) 0 128 (w1.alloc (.cells #[.slice none 0 0] 25)) ((unhide HRD2).alloc _) (unhide HOKd) (by omega))
      clear HRAW f2 hv2 hb2 HB2 HFR0 hval
      cases hu : unumMost 128 (bs.drop 4) with
      | error k0 =>
        have hk0 := unumMost_err hu
        have HO : Hid (decP bs = .error k0) := by unfold Hid; rw [unhide HO0]; unfold decT; rw [hu]
        rw [hu] at HCO
        simp only [gNum, rres, ↓reduceIte] at HCO
        go_wp2_with fail
        refine (unhide HER).mono ?_
        rintro e w2 ⟨rfl, e2⟩
        subst e2
        go_wp2_with fail
        refine (unhide HCO).mono ?_
        rintro e w3 ⟨rfl, v3, hv3, f3⟩
        dsimp only at hv3 ⊢
        obtain ⟨B, hBB⟩ : ∃ B, Hid (w2.heap.size = B) := ⟨_, hide rfl⟩
        rw [unhide hBB] at HFQ0 ⊢
        have HFQ3 : Hid (FQ w r rb B (.slice none 0 0) v3 (bs.drop 4) k0 w3) := by
          have q := unhide HFQ0
          have hBw := q.hB
          exact ⟨q.fr.trans f3, (f3.block _ (blk_cells q.b2).2.2 (by show ¬ w.heap.size = r; omega)).trans q.b2, (f3.block _ (blk_cells q.b5).2.2 (by show ¬ B = r; omega)).trans q.b5, hv3, q.hr, q.hb, q.hB⟩
        clear hv3 f3 HFQ0 HER HCO hcv hsz
        go_wp2_with fail
        go_loopg [21] 0 (fun gg t21 wr => t21 = .int .i64 0 ∧ wr = w3 ∧ gg = 0)
        case atStart => exact ⟨rfl, rfl, rfl⟩
        case round =>
          obtain ⟨rfl, hwr, rfl⟩ := hrel
          subst hwr
          obtain ⟨bq, hbq⟩ : ∃ bq, bq = bs.drop 4 := ⟨_, rfl⟩
          obtain ⟨ee, hee0⟩ : ∃ ee : Int, ee = k0 := ⟨_, rfl⟩
          have HFQ : Hid (FQ w r rb B (.slice none 0 0) v3 bq ee wr) := by rw [hbq, hee0]; exact HFQ3
          have hee : rEnd bq ee = k0 := by rw [hee0]; unfold rEnd; rw [if_neg hk0]
          clear HFQ3 hbq hee0
          obtain ⟨c1, c2, c3⟩ := blk_cells (unhide HFQ).b5
          have HSD : Hid (wr.drew.cell? ⟨B, 0, none⟩ = some (.slice none 0 0)) := c1 0
          have hqv := (unhide HFQ).drew
          obtain ⟨V, hV⟩ : ∃ V, Hid (wr.drew = V) := ⟨_, hide rfl⟩
          have HSV := HSD
          rw [unhide hV] at HSV hqv
          have HEN := hide (rEnd_any r v3 bq ee V hqv.rd)
          rw [hee] at HEN
          obtain ⟨d1, d2, d3⟩ := blk_cells hqv.b2
          have v0 := d1 0
          have g0 := d2 0
          simp at v0
          obtain ⟨q1, q2, q3⟩ := hqv.store
          obtain ⟨Z, hZ⟩ : ∃ Z, Hid (V.setCell ⟨w.heap.size, 0, none⟩ (.slice none 0 0) = Z) := ⟨_, hide rfl⟩
          rw [unhide hZ] at q1 q2 q3
          have HSz : Hid (Z.cell? ⟨B, 0, none⟩ = some (.slice none 0 0)) := (blk_cells q2).1 0
          have HFZ := hide q3
          obtain ⟨y1, y2, y3⟩ := blk_cells q1
          have m0 := y1 0
          simp at m0
          have HFQ' := HFQ
          clear c1 c2 d1 d2 y1 y2 q1 q2 q3 hqv HFQ 
          go_wp2_with fail
          refine wp_region_held_drew (S := (fun W => W.cell? ⟨B, 0, none⟩ = some (.slice none 0 0))) (by kernel_rfl) (unhide HSD) (fun hHeld => ?_)
          clear hHeld
          rw [unhide hV]
          refine wpAnyH_take (i := 0) (oi := _) (v := .agg #[.slice none 0 0]) rfl (by kernel_rfl) (by kernel_rfl) (by kernel_rfl) (fun _ _ _ h => h) (Or.inl ⟨by rfl, (by intro w' hSw; have s0 := hSw; go_simp)⟩) (unhide HSV) ?_
          go_simp
          refine wpAnyH_take (i := 1) (oi := _) (v := .pointer (some ⟨r, 0, none⟩)) rfl (by kernel_rfl) (by kernel_rfl) (by kernel_rfl) (fun _ _ _ h => h) (Or.inl ⟨by rfl, (by intro w' hSw; have s0 := hSw; go_simp)⟩) (unhide HSV) ?_
          go_simp
          refine wpAnyH_ready (rs := [2]) (by kernel_rfl) (by simp) ?_
          refine AllReadyH.cons (o := _) rfl (fun K hK => ?_) AllReadyH.nil
          go_simp
          refine (unhide HEN).mono ?_
          rintro e w3 ⟨rfl, hw3⟩
          subst hw3
          go_simp
          refine hK.out _ _ (unhide HSV) (fun _ => ?_)
          clear hK K
          go_simp
          refine wpAnyH_ready (rs := [3]) (by kernel_rfl) (by simp) ?_
          refine AllReadyH.cons (o := _) rfl (fun K hK => ?_) AllReadyH.nil
          go_simp
          rw [unhide hZ]
          refine hK.out _ _ (unhide HSz) (fun _ => ?_)
          clear hK K
          go_simp
          refine wpAnyH_take (i := 4) (oi := _) (v := .int .i64 k0) rfl (by kernel_rfl) (by kernel_rfl) (by kernel_rfl) (fun _ _ _ h => h) (Or.inl ⟨by rfl, (by intro w' hSw; have s0 := hSw; go_simp)⟩) (unhide HSz) ?_
          go_simp
          refine wpAnyH_done (by kernel_rfl) ?_ _
          go_wp2_with fail
          refine bodyPost_ret (v := .tuple #[.agg #[.slice none 0 0], .int .i64 k0]) ?_ rfl ?_
          · rw [results_cell_tmp rfl]
            go_simp
          · show PrP r w (decP bs) _ _
            rw [unhide HO]
            exact ⟨unhide HFZ, hk0, _, _, _, rfl⟩
      | ok p =>
        obtain ⟨N, t0⟩ := p
        obtain ⟨hb0, hN⟩ := unumMost_ok (unhide HOKd) hu
        have hN' : N ≤ 128 := by omega
        have HO1 : Hid (decP bs = match rdM N [] t0 with | .error k => .error k | .ok (f, t') => if t'.length = 0 then .ok f else .error 3) := by
          unfold Hid; rw [unhide HO0]; unfold decT; rw [hu]
          rfl
        rw [hu] at HCO
        simp only [gNum, rres, ↓reduceIte] at HCO
        go_wp2_with fail
        refine (unhide HER).mono ?_
        rintro e w2 ⟨rfl, e2⟩
        subst e2
        go_wp2_with fail
        refine (unhide HCO).mono ?_
        rintro e w3 ⟨rfl, v3, hv3, f3⟩
        dsimp only at hv3 ⊢
        obtain ⟨B, hBB⟩ : ∃ B, Hid (w2.heap.size = B) := ⟨_, hide rfl⟩
        rw [unhide hBB] at HFQ0 ⊢
        have HX : Hid (MQ w r rb B (.slice none 0 0) [] [] t0 w3) := by
          have q := unhide HFQ0
          have hBw := q.hB
          exact ⟨q.fr.trans f3, (f3.block _ (blk_cells q.b2).2.2 (by show ¬ w.heap.size = r; omega)).trans q.b2, (f3.block _ (blk_cells q.b5).2.2 (by show ¬ B = r; omega)).trans q.b5, OW.nil _, ⟨v3, hv3⟩, hb0, q.hr, q.hb, q.hB⟩
        clear hv3 f3 HFQ0 HER HCO hcv hsz
        go_wp2_with fail
        go_loopg [21] N (fun gg t21 wr => ∃ (i : Nat) (gv : Value) (f : List (List Sp)) (vs : List Value) (bq : List Int), Hid (i + gg = N) ∧ t21 = .int .i64 (i : Int) ∧ Hid (f.length = i) ∧ Hid (MQ w r rb B gv f vs bq wr) ∧ Hid (rdM gg f bq = rdM N [] t0))
        case atStart => exact ⟨0, _, _, _, _, by unfold Hid; omega, rfl, hide rfl, HX, hide rfl⟩
        case round =>
          clear HX
          obtain ⟨i, gv, f, vs, bq, hi, rfl, hff, hM, hQ⟩ := hrel
          obtain ⟨v4, hv4⟩ := (unhide hM).rd
          by_cases hlt : i < N
          · have i0 : (0 : Int) ≤ (i : Int) := by omega
            have i1 : (i : Int) < (N : Int) := by omega
            have hwz := (unhide hM).fr.size
            have HC := hide (readSpots_any r v4 bq wr hv4 (unhide hM).ok (by omega))
            obtain ⟨m, hm⟩ : ∃ m, gk = m + 1 := ⟨gk - 1, by have := unhide hi; omega⟩
            have HR : Hid (rdM N [] t0 = match rdF1 bq with | .error e => .error e | .ok (l, t) => rdM m (f ++ [l]) t) := by rw [← unhide hQ, hm]; rfl
            clear hv4
            go_wp2_with fail
            refine (unhide HC).mono ?_
            rintro e w5 ⟨hf5, hm5⟩
            cases hsx : rdF1 bq with
            | error k0 =>
              rw [hsx] at hm5 HR
              obtain ⟨hk0, rfl⟩ := hm5
              have dk : (k0 != 0) = true := by simpa using hk0
              have HR2 := unhide HR
              dsimp only at HR2
              have hb25 := (hf5.block w.heap.size (unhide hM).sz.1 (by show ¬ w.heap.size = r; omega)).trans (unhide hM).b2
              obtain ⟨c1, c2, c3⟩ := blk_cells hb25
              have y0 := c1 0
              have g0 := c2 0
              simp at y0
              have HF5 := hide ((unhide hM).fr.trans hf5)
              clear HC c1 c2
              go_wp2_with fail
              refine bodyPost_ret (v := .tuple #[.agg #[.slice none 0 0], .int .i64 k0]) ?_ rfl ?_
              · rw [results_cell_tmp rfl]
                go_simp
              · show PrP r w (decP bs) _ _
                rw [unhide HO1, HR2]
                refine ⟨?_, hk0, _, _, _, rfl⟩
                exact (unhide HF5).comp ((Fr.refl (fun i => i = w.heap.size) _).setCell ⟨w.heap.size, 0, none⟩ (.inr rfl) _) (fun i hi e => by omega)
            | ok p =>
              obtain ⟨l, t⟩ := p
              rw [hsx] at hm5 HR
              obtain ⟨lv, rfl, hlo, hln, hbt, v6, hv6⟩ := hm5
              obtain ⟨la, lc, el, _, _⟩ := hlo.shape
              subst el
              have HR2 := unhide HR
              dsimp only at HR2
              have hb55 := (hf5.block B (unhide hM).sz.2 (by show ¬ B = r; have := (unhide hM).hB; omega)).trans (unhide hM).b5
              obtain ⟨c1, c2, c3⟩ := blk_cells hb55
              have y0 := c1 0
              have g0 := c2 0
              simp at y0
              have hgb : ∀ k, gv.ownBlock = some k → w.heap.size < k ∧ k ≠ B := (unhide hM).ow.rb
              have hrow : Ro w5 1 gv f.length (flt enV vs) := (unhide hM).ow.row.fr hf5 (fun k hk e => by have := hgb k hk; have e' : k = r := e; omega)
              have HROW := hide hrow
              have hvl := (unhide hM).ow.len
              have HLB : Hid (vs.length ≤ 5864062014700) := by rw [hvl, unhide hff]; unfold Hid; omega
              have HPB : Hid (∀ X w6, (w5.alloc X).grownBy w6 gv.ownBlock → w6.heap[B]? = w5.heap[B]?) := fun X w6 hg => by
                have fg : Fr (fun k => gv.ownBlock = some k) w5 w6 := ((Fr.refl _ w5).alloc X).grown hg (fun k e => .inr e)
                exact fg.block B c3 (fun e => (hgb B e).2 rfl)
              have HPU := hide (fun v' w6 X m hr hm' hg hat => (unhide hM).push (v' := v') (w2 := w6) (X := X) (m := m) hf5 hv6 hbt hlo hln hr hm' hg hat)
              rw [← hvl] at HROW
              have hvf : vs.length = f.length := hvl
              clear HC hrow hv6 hlo hln hf5 hgb c1 c2 hb55 hvl
              go_wp2_with (first | (at_builtin; refine appR rfl _ _ rfl _ vs rfl ((unhide HROW).keep (fun g hg => Below.heap_alloc _ _ _ ((unhide HROW).lt g hg))) ⟨w5.heap.size, 0, none⟩ 1 (.slice la l.length lc) rfl rfl (new_cells _ _ _) (unhide HLB) ?_))
              intro v' w6 hr' hg hat
              obtain ⟨va, vc, ev, _, _⟩ := hr'.shape
              subst ev
              have hp6 := unhide HPB _ w6 hg
              have y0' : w6.cell? ⟨B, 0, none⟩ = some gv := (World.cell?_of_block hp6).trans y0
              have g0' : w6.frozen? ⟨B, 0, none⟩ = false := (World.frozen?_of_block hp6).trans g0
              have c3' : B < w6.heap.size := Nat.lt_of_lt_of_le c3 (Nat.le_trans (by simp) hg.size)
              have HM2 := hide (unhide HPU _ w6 _ _ hr' (by first | rfl | rw [hvf]) hg (by simpa using hat))
              have HFF : Hid ((f ++ [l]).length = i + 1) := by rw [List.length_append, unhide hff]; rfl
              clear hr' hg hat HROW HLB HPB HPU hp6 y0 g0 c3 hM
              go_wp2_with fail
              go_roundg m
              case measure => omega
              case rel => exact ⟨i + 1, _, _, _, t, by have := unhide hi; unfold Hid; omega, by go_num, HFF, HM2, HR2.symm⟩
          · have hiN : i = N := by have := unhide hi; omega
            have hg0 : gk = 0 := by have := unhide hi; omega
            subst hiN
            have hOq : rdM i [] t0 = .ok (f, bq) := by have h := unhide hQ; rw [hg0] at h; exact h.symm
            have HO : Hid (decP bs = if bq.length = 0 then .ok f else .error 3) := by unfold Hid; rw [unhide HO1, hOq]
            obtain ⟨ga, gc, eg, _, _⟩ := (unhide hM).ow.row.shape
            subst eg
            obtain ⟨ee, hee0⟩ : ∃ ee : Int, ee = 0 := ⟨_, rfl⟩
            have HFQ : Hid (FQ w r rb B (.slice ga f.length gc) v4 bq ee wr) := by rw [hee0]; exact (unhide hM).fq hv4
            obtain ⟨EE, hEE⟩ : ∃ EE, Hid (rEnd bq ee = EE) := ⟨_, hide rfl⟩
            have hee : rEnd bq ee = EE := unhide hEE
            have HEE : Hid (EE = if bq.length = 0 then 0 else 3) := by rw [← hee, hee0]; unfold rEnd Hid; rw [if_pos rfl]
            have v3 := v4
            have HOW := hide (unhide hM).ow
            have hwrB := (unhide hM).hB
            clear hee0 hv4
            obtain ⟨c1, c2, c3⟩ := blk_cells (unhide HFQ).b5
            have HSD : Hid (wr.drew.cell? ⟨B, 0, none⟩ = some (.slice ga f.length gc)) := c1 0
            have hqv := (unhide HFQ).drew
            obtain ⟨V, hV⟩ : ∃ V, Hid (wr.drew = V) := ⟨_, hide rfl⟩
            have HSV := HSD
            rw [unhide hV] at HSV hqv
            have HEN := hide (rEnd_any r v4 bq ee V hqv.rd)
            rw [hee] at HEN
            obtain ⟨d1, d2, d3⟩ := blk_cells hqv.b2
            have v0 := d1 0
            have g0 := d2 0
            simp at v0
            obtain ⟨q1, q2, q3⟩ := hqv.store
            obtain ⟨Z, hZ⟩ : ∃ Z, Hid (V.setCell ⟨w.heap.size, 0, none⟩ (.slice ga f.length gc) = Z) := ⟨_, hide rfl⟩
            rw [unhide hZ] at q1 q2 q3
            have HSz : Hid (Z.cell? ⟨B, 0, none⟩ = some (.slice ga f.length gc)) := (blk_cells q2).1 0
            have HFZ := hide q3
            obtain ⟨y1, y2, y3⟩ := blk_cells q1
            have m0 := y1 0
            simp at m0
            have HFQ' := HFQ
            clear c1 c2 d1 d2 y1 y2 q1 q2 q3 hqv HFQ 
            go_wp2_with fail
            refine wp_region_held_drew (S := (fun W => W.cell? ⟨B, 0, none⟩ = some (.slice ga f.length gc))) (by kernel_rfl) (unhide HSD) (fun hHeld => ?_)
            clear hHeld
            rw [unhide hV]
            refine wpAnyH_take (i := 0) (oi := _) (v := .agg #[.slice ga f.length gc]) rfl (by kernel_rfl) (by kernel_rfl) (by kernel_rfl) (fun _ _ _ h => h) (Or.inl ⟨by rfl, (by intro w' hSw; have s0 := hSw; go_simp)⟩) (unhide HSV) ?_
            go_simp
            refine wpAnyH_take (i := 1) (oi := _) (v := .pointer (some ⟨r, 0, none⟩)) rfl (by kernel_rfl) (by kernel_rfl) (by kernel_rfl) (fun _ _ _ h => h) (Or.inl ⟨by rfl, (by intro w' hSw; have s0 := hSw; go_simp)⟩) (unhide HSV) ?_
            go_simp
            refine wpAnyH_ready (rs := [2]) (by kernel_rfl) (by simp) ?_
            refine AllReadyH.cons (o := _) rfl (fun K hK => ?_) AllReadyH.nil
            go_simp
            refine (unhide HEN).mono ?_
            rintro e w3 ⟨rfl, hw3⟩
            subst hw3
            go_simp
            refine hK.out _ _ (unhide HSV) (fun _ => ?_)
            clear hK K
            go_simp
            refine wpAnyH_ready (rs := [3]) (by kernel_rfl) (by simp) ?_
            refine AllReadyH.cons (o := _) rfl (fun K hK => ?_) AllReadyH.nil
            go_simp
            rw [unhide hZ]
            refine hK.out _ _ (unhide HSz) (fun _ => ?_)
            clear hK K
            go_simp
            refine wpAnyH_take (i := 4) (oi := _) (v := .int .i64 EE) rfl (by kernel_rfl) (by kernel_rfl) (by kernel_rfl) (fun _ _ _ h => h) (Or.inl ⟨by rfl, (by intro w' hSw; have s0 := hSw; go_simp)⟩) (unhide HSz) ?_
            go_simp
            refine wpAnyH_done (by kernel_rfl) ?_ _
            go_wp2_with fail
            refine bodyPost_ret (v := .tuple #[.agg #[.slice ga f.length gc], .int .i64 EE]) ?_ rfl ?_
            · rw [results_cell_tmp rfl]
              go_simp
            · show PrP r w (decP bs) _ _
              rw [unhide HO]
              have q := unhide HEE
              by_cases hz : bq.length = 0
              · rw [if_pos hz]
                rw [if_pos hz] at q
                subst q
                refine ⟨unhide HFZ, _, vs, rfl, ?_⟩
                have fz : Fr (fun k => k = w.heap.size) wr Z := by
                  rw [← unhide hZ, ← unhide hV]
                  exact Fr.setCell (S := fun k => k = w.heap.size) (Fr.refl _ wr).drew ⟨w.heap.size, 0, none⟩ (.inr rfl) _
                exact ((unhide HOW).frZ staysR fz (fun k _ hk e => by have e' : k = w.heap.size := e; omega)).mono (fun k _ hk => hk.1)
              · rw [if_neg hz]
                rw [if_neg hz] at q
                subst q
                exact ⟨unhide HFZ, by decide, _, _, _, rfl⟩
    · have HO : Hid (decP bs = .error 4) := by unfold Hid decP; rw [if_neg h4', if_neg hsg]
      have hsl : ¬ s.toList = [80, 84, 70, 1] := fun e => hsg (by
        have e2 : toStr (bs.take 4) = toStr sgn4 := by
          rw [unhide hs, toStr_sgn]
          rw [ByteArray.toList_eq] at e
          exact Go.WideShapes.bytes_inj (e : s.data.toList = sgnS.data.toList)
        exact toStr_inj hOKt (by intro x hx; simp [sgn4] at hx; omega) e2)
      have hsb : (s.toList == [80, 84, 70, 1]) = false := by simpa using hsl
      obtain ⟨c1, c2, c3⟩ := blk_cells hb2
      have y0 := c1 0
      have g0 := c2 0
      simp at y0
      clear c1 c2 HRAW f2 hv2 HB2 HFR0 hval hb2
      go_wp2_with fail
      refine (unhide HER).mono ?_
      rintro e w2 ⟨rfl, e2⟩
      subst e2
      go_wp2_with fail
      refine bodyPost_ret (v := .tuple #[.agg #[.slice none 0 0], .int .i64 4]) ?_ rfl ?_
      · rw [results_cell_tmp rfl]
        go_simp
      · show PrP r w (decP bs) _ _
        rw [unhide HO]
        refine ⟨?_, by decide, _, _, _, rfl⟩
        exact (unhide HF2).comp ((Fr.refl (fun i => i = w.heap.size) _).setCell ⟨w.heap.size, 0, none⟩ (.inr rfl) _) (fun i hi e => by omega)

set_option linter.unusedVariables false
set_option linter.unusedSimpArgs false
def DcP (w : World) (o : Except Int (List (List Sp))) (e : Ending) (w' : World) : Prop := Below w.heap.size w w' ∧
  match o with
  | .error k => k ≠ 0 ∧ e = .returned (.tuple #[.agg #[.slice none 0 0], .int .i64 k])
  | .ok f => ∃ v vs, e = .returned (.tuple #[.agg #[v], .int .i64 0]) ∧ PO (fun k => w.heap.size < k) w' v f vs
theorem Rdr.near {w : World} {r rb q : Nat} {v : Value} {bs : List Int} {e : Int} (h : Rdr w r rb v bs e) (hq : q < w.heap.size) (hn : q ≠ r) : ∃ rb', rb' < w.heap.size ∧ Rdr w r rb' v bs e := by
  rcases h.rd with ⟨e1, e2⟩ | ⟨b, off, cap, e1, _, _, hb, _⟩
  · exact ⟨q, hq, h.c0, h.c1, h.f0, h.f1, h.rd, (fun b off len cap e => by rw [e1] at e; cases e), hn⟩
  · have := h.ap b off _ cap e1
    exact ⟨rb, by omega, h⟩
set_option maxRecDepth 100000 in
set_option maxHeartbeats 6400000 in
theorem decode_any {w : World} {v : Value} {bs : List Int} (h : Rd w v bs) (hB : BOk bs) (hbl : bs.length ≤ 140737488355328) : Calls Tryz.prog 6 #[v] w (DcP w (decP bs)) := by
  have hb1 := bl_one w (.cells #[.slice none 0 0] 25)
  have HNR := hide (newReader_any v bs (w.alloc (.cells #[.slice none 0 0] 25)) (h.below hb1) hbl)
  have HBX := hide (heap_alloc_new w (.cells #[.slice none 0 0] 25))
  have HB1 := hide hb1
  have hs1 : (w.alloc (.cells #[.slice none 0 0] 25)).heap.size = w.heap.size + 1 := by simp
  rw [hs1] at HNR
  have HBL := hide hbl
  have HOK := hide hB
  clear h hb1 hB hbl
  go_enter Tryz.func6, Tryz.ntmps6
  go_wp2_with fail
  refine (unhide HNR).mono ?_
  rintro e w1 ⟨r, rb, v2, rfl, hr1, _, hv2, b1⟩
  have b1' : Below (w.heap.size + 1) (w.alloc (.cells #[.slice none 0 0] 25)) w1 := b1
  have hsz1 := b1'.size
  rw [hs1] at hsz1
  obtain ⟨rb', hrb', hv3⟩ := hv2.near (q := w.heap.size) (by omega) (by omega)
  have HC := hide (readProfile_any r v2 bs w1 hv3 (unhide HOK) hrb' (unhide HBL))
  have hbx1 := (b1'.block w.heap.size (by omega)).trans (unhide HBX)
  have HB1' := hide ((unhide HB1).trans (b1'.mono (by omega)))
  have HBX1 := hide hbx1
  clear hv2 hv3 b1 b1' HNR HBX hbx1
  go_wp2_with fail
  refine (unhide HC).mono ?_
  rintro e w2 ⟨f2, hm⟩
  have hbx2 := (f2.block w.heap.size (by omega) (by show ¬ w.heap.size = r; omega)).trans (unhide HBX1)
  have hsz2 := f2.size
  have HB2 : Hid (Below w.heap.size w w2) := (unhide HB1').trans (f2.below (by omega) (fun k hk e => by have e' : k = r := e; omega))
  cases ho : decP bs with
  | error k0 =>
    have HO := hide ho
    rw [ho] at hm
    obtain ⟨hk0, pa, pn, pc, rfl⟩ := hm
    have dk : (k0 != 0) = true := by simpa using hk0
    obtain ⟨c1, c2, c3⟩ := blk_cells hbx2
    have y0 := c1 0
    have g0 := c2 0
    simp at y0
    clear HC c1 c2 f2 HBX1 HB1' hbx2 ho
    go_wp2_with fail
    refine bodyPost_ret (v := .tuple #[.agg #[.slice none 0 0], .int .i64 k0]) ?_ rfl ?_
    · rw [results_cell_tmp rfl]
      go_simp
    · show DcP w (decP bs) _ _
      rw [unhide HO]
      refine ⟨?_, hk0, rfl⟩
      have fz : Fr (fun k => k = w.heap.size) w2 ((w2.setCell ⟨w.heap.size, 0, none⟩ (.slice none 0 0)).alloc (.cells #[.slice pa pn pc] 25)) := (Fr.setCell (S := fun k => k = w.heap.size) (Fr.refl _ w2) ⟨w.heap.size, 0, none⟩ (.inr rfl) _).alloc _
      exact (unhide HB2).trans (fz.below (unhide HB2).size (fun k hk e => by have e' : k = w.heap.size := e; omega))
  | ok f =>
    have HO := hide ho
    rw [ho] at hm
    obtain ⟨pv, vs, rfl, hpo⟩ := hm
    obtain ⟨pa, pc, ep, _, _⟩ := hpo.row.shape
    subst ep
    obtain ⟨c1, c2, c3⟩ := blk_cells hbx2
    have y0 := c1 0
    have g0 := c2 0
    simp at y0
    have HPO := hide hpo
    clear HC c1 c2 f2 HBX1 HB1' hbx2 ho hpo
    go_wp2_with fail
    refine bodyPost_ret (v := .tuple #[.agg #[.slice pa f.length pc], .int .i64 0]) ?_ rfl ?_
    · rw [results_cell_tmp rfl]
      go_simp
    · show DcP w (decP bs) _ _
      rw [unhide HO]
      have fz : Fr (fun k => k = w.heap.size) w2 ((w2.setCell ⟨w.heap.size, 0, none⟩ (.slice pa f.length pc)).alloc (.cells #[.slice pa f.length pc] 25)) := (Fr.setCell (S := fun k => k = w.heap.size) (Fr.refl _ w2) ⟨w.heap.size, 0, none⟩ (.inr rfl) _).alloc _
      refine ⟨(unhide HB2).trans (fz.below (unhide HB2).size (fun k hk e => by have e' : k = w.heap.size := e; omega)), _, vs, rfl, ?_⟩
      exact ((unhide HPO).frZ staysR fz (fun k _ hk e => by have e' : k = w.heap.size := e; omega)).mono (fun k _ hk => by have hk' : w1.heap.size < k := hk; show w.heap.size < k; omega)
end Go.Proofs.YtclcebdcdbcpjaaGreat
