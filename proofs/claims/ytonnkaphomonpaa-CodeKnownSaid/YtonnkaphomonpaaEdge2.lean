/-
  Each operation with the operands about each end.
-/
import Derived.Test.YtonnkaphomonpaaEdge1
import Derived.Test.YtonnkaphomonpaaLNames
import Derived.Deep.RegionHeld3
namespace Go.Proofs.Ytonnkaphomonpaa
open Go.RowKit
set_option linter.unusedVariables false

theorem nmI_size (o : Int) : (nmI o).size ≤ 8 := by
  by_cases h : 0 ≤ o ∧ o < 67
  · obtain ⟨k, rfl⟩ : ∃ k : Nat, o = k := ⟨o.toNat, by omega⟩
    rw [nmI_nat (by omega)]
    have : ∀ k : Fin 67, (nm k.val).size ≤ 8 := by decide +kernel
    exact this ⟨k, by omega⟩
  · rw [nmI_no h]
    decide
theorem bneq_bool (b : Bool) (w : World) : (binOp .neq 4 (.bool b) (.bool b)).run Try.prog w = .ok (.bool false) w := by cases b <;> kernel_rfl

set_option maxRecDepth 100000 in
set_option maxHeartbeats 8000000 in
theorem edged_any (w : World) : Calls Try.prog 4 #[] w fun e w' => e = .returned (.bool true) ∧ Below w.heap.size w w' := by
  have HEd := hide edges_any
  have HLo := hide long_any
  have HK := hide kindsLaw
  have HD := hide dName_any
  have HN := hide namesLaw
  have HNm := hide num_any
  have e5 := bneq_bool
  have dne : ∀ x : Int, (x != x) = false := fun x => by simp
  go_enter Try.func4, Try.ntmps4
  go_wp2_with fail
  refine (unhide HEd _).mono ?_
  rintro e w1 ⟨rfl, hb1, hE⟩
  have HE := hide hE
  have B1 := hide hb1
  have HLB : Hid (w.heap.size < w1.heap.size) := World.block_lt_of_cell? _ _ (hE 0 (by omega))
  clear hb1 hE HEd
  go_wp2_with fail
  go_loopg [2] 71 (fun g t2 wr => ∃ (i : Nat), Hid (i + g = 71) ∧ t2 = .int .i64 ((i : Int) - 1) ∧ Hid (Below w1.heap.size w1 wr))
  case atStart => exact ⟨0, rfl, rfl, Below.refl _ _⟩
  case round =>
    obtain ⟨i, hi, rfl, hB⟩ := hrel
    by_cases hlt : i < 71
    · obtain ⟨o, ho⟩ : ∃ o, Hid (o = (i : Int) - 1) := ⟨_, rfl⟩
      rw [← unhide ho]
      have HOo : Hid (-1 ≤ o ∧ o < 70) := by rw [unhide ho]; unfold Hid; omega
      have HIo : Hid (I64 o) := by have := unhide HOo; unfold Hid I64; omega
      have o70 : o < 70 := (unhide HOo).2
      have ewo : IntKind.i64.wrap (o + 1) = o + 1 := by have := unhide HOo; rw [IntKind.wrap_i64]; omega
      obtain ⟨G0, hG0⟩ : ∃ G0 : Nat, Hid (G0 = gk) := ⟨_, rfl⟩
      go_wp2_with fail
      refine (unhide HK _ _).mono ?_
      rintro e wk ⟨rfl, hbk⟩
      have BK := hide (Bl.go (unhide hB) (unhide hB).size hbk)
      clear hbk
      have hnm := unhide HD wk o
      have hsz := nmI_size o
      generalize nmI o = s at *
      generalize isOp o = ib at *
      have HNo := hide hnm
      clear hnm
      go_wp2_with fail
      refine (unhide HNo).mono ?_
      rintro e wk' ⟨rfl, rfl⟩
      by_cases hs : 0 < s.size
      · have hs1 : (1 : Int) ≤ (s.size : Int) := by omega
        have hs0 : (0 : Int) < (s.size : Int) := by omega
        go_wp2_with fail
        refine (unhide HN _ _ _).mono ?_
        rintro e wn0 ⟨rfl, hbn⟩
        have BN0 := hide (Bl.go (unhide BK) (unhide BK).size hbn)
        clear hbn
        go_wp2_with fail
        refine (unhide HN _ _ _).mono ?_
        rintro e wn1 ⟨rfl, hbn⟩
        have BN1 := hide (Bl.go (unhide BN0) (unhide BN0).size hbn)
        clear hbn
        go_wp2_with fail
        refine (unhide HN _ _ _).mono ?_
        rintro e wn2 ⟨rfl, hbn⟩
        have BN2 := hide (Bl.go (unhide BN1) (unhide BN1).size hbn)
        clear hbn
        go_wp2_with fail
        refine (unhide HN _ _ _).mono ?_
        rintro e wn3 ⟨rfl, hbn⟩
        have BN3 := hide (Bl.go (unhide BN2) (unhide BN2).size hbn)
        clear hbn
        go_wp2_with fail
        refine (unhide HN _ _ _).mono ?_
        rintro e wn4 ⟨rfl, hbn⟩
        have BN4 := hide (Bl.go (unhide BN3) (unhide BN3).size hbn)
        clear hbn
        go_wp2_with fail
        refine (unhide HN _ _ _).mono ?_
        rintro e wn5 ⟨rfl, hbn⟩
        have BN5 := hide (Bl.go (unhide BN4) (unhide BN4).size hbn)
        clear hbn
        go_wp2_with fail
        go_loopg [5] 29 (fun g t5 wr => ∃ (x : Nat), Hid (x + g = 29) ∧ t5 = .int .i64 (x : Int) ∧ Hid (Below w1.heap.size w1 wr))
        case atStart => exact ⟨0, by unfold Hid; omega, rfl, unhide BN5⟩
        case round =>
          obtain ⟨x, hx, rfl, hB⟩ := hrel
          have E0 := unhide HE
          have lbl : w.heap.size < wr.heap.size := Nat.lt_of_lt_of_le (unhide HLB) (unhide hB).size
          by_cases hlt2 : x < 29
          · obtain ⟨a, ha⟩ : ∃ a, Hid (a = edA x) := ⟨_, rfl⟩
            have cl : wr.cell? ⟨w.heap.size, x, none⟩ = some (.int .i64 a) := by rw [unhide ha]; exact ((unhide hB).cell (p := ⟨w.heap.size, x, none⟩) (unhide HLB)).trans (E0 x hlt2)
            have hIa : I64 a := by rw [unhide ha]; exact edA_I64 x hlt2
            have x0 : (0 : Int) ≤ (x : Int) := by omega
            have x1 : (x : Int) < 29 := by omega
            have H1 := hide (fun w => dEffect_any w o a hIa)
            have H2 := hide (fun w => effect_any w o a)
            have HCk := hide (fun w => check_any w o a)
            have HDk := hide (fun w => dCheck_any w o a hIa)
            have HEn := hide (fun (W : World) (v : Value) (q : RtV W v [(o, a)]) => encode_any q (by simp) (by intro p hp; simp at hp; subst hp; exact ⟨unhide HIo, hIa⟩))
            have HDn := hide (fun (W : World) (v : Value) (q : RtV W v [(o, a)]) => dEncode_any q (by simp) (by intro p hp; simp at hp; subst hp; exact ⟨unhide HIo, hIa⟩))
            have HLn := hide (encB_len [(o, a)])
            have HPu : Hid (∀ (k : Nat) (hk : k < 256) (W : World), Calls Try.prog 21 #[.slice none 0 0, .agg #[.int .i64 (k : Int), .int .i64 a]] W fun e w' => ∃ l, e = .returned l ∧ RG W.heap.size (.slice none 0 0) W l (pfm k a) w') := fun k hk W => by
              have q := dPutG_any W.heap.size (.slice none 0 0) [] k hk a hIa W (by simpa using World.ownsRow_nil _ _ _ _) (Nat.le_refl _) (by simp)
              simpa using q
            have HPb : Hid (∀ k, k < 256 → BOk (pfm k a)) := fun k hk => pfm_bok k hk a hIa
            unfold EncPost at HEn HDn
            generalize okB o a = b at *
            generalize tkI o a = t at *
            generalize ptI o a = p at *
            generalize erN o a = er at *
            generalize encE [(o, a)] = en at *
            generalize encB [(o, a)] = xs at *
            clear hIa E0
            go_wp2_with fail
            refine (unhide H1 _).mono ?_
            rintro e w3 ⟨rfl, hb3⟩
            obtain ⟨c0, c1⟩ := par_cells hb3
            have B3 := hide (Bl.go (unhide hB) (unhide hB).size (Bl.par hb3))
            clear hb3
            go_wp2_with fail
            refine (unhide H2 _).mono ?_
            rintro e w4 ⟨rfl, hb4⟩
            have hS : w4.cell? ⟨wr.heap.size, 0, none⟩ = some (.int .i64 o) ∧ w4.cell? ⟨wr.heap.size, 1, none⟩ = some (.int .i64 a) := ⟨(hb4.cell (p := ⟨wr.heap.size, 0, none⟩) (World.block_lt_of_cell? _ _ c0)).trans c0, (hb4.cell (p := ⟨wr.heap.size, 1, none⟩) (World.block_lt_of_cell? _ _ c1)).trans c1⟩
            have HS : Hid (∀ w5, Below w4.heap.size w4 w5 → w5.cell? ⟨wr.heap.size, 0, none⟩ = some (.int .i64 o) ∧ w5.cell? ⟨wr.heap.size, 1, none⟩ = some (.int .i64 a)) := fun w5 hb => ⟨(hb.cell (p := ⟨wr.heap.size, 0, none⟩) (World.block_lt_of_cell? _ _ hS.1)).trans hS.1, (hb.cell (p := ⟨wr.heap.size, 1, none⟩) (World.block_lt_of_cell? _ _ hS.2)).trans hS.2⟩
            have B4 := hide (Bl.go (unhide B3) (unhide B3).size hb4)
            clear hb4 c0 c1
            go_wp2_with fail
            refine wp_region_held_drew (S := (fun wx => wx.cell? ⟨wr.heap.size, 0, none⟩ = some (.int .i64 o) ∧ wx.cell? ⟨wr.heap.size, 1, none⟩ = some (.int .i64 a))) (by kernel_rfl) hS (fun hHeld => ?_)
            refine wpAnyH_take (i := 0) (oi := _) (v := .int .i64 t) rfl (by kernel_rfl) (by kernel_rfl) (by kernel_rfl) (fun _ _ _ h => h) (Or.inl ⟨by rfl, (by intro w hSw; go_simp)⟩) (by assumption) ?_
            refine wpAnyH_take (i := 1) (oi := _) (v := .int .i64 t) rfl (by kernel_rfl) (by kernel_rfl) (by kernel_rfl) (fun _ _ _ h => h) (Or.inl ⟨by rfl, (by intro w hSw; go_simp)⟩) (by assumption) ?_
            refine wpAnyH_take (i := 2) (oi := _) (v := .bool false) rfl (by kernel_rfl) (by kernel_rfl) (by kernel_rfl) (fun _ _ _ h => h) (Or.inl ⟨by rfl, (by intro w hSw; go_simp)⟩) (by assumption) ?_
            go_simp
            refine wpAnyH_take (i := 3) (oi := _) (v := .bool false) rfl (by kernel_rfl) (by kernel_rfl) (by kernel_rfl) (fun _ _ _ h => h) (Or.inl ⟨by rfl, (by intro w hSw; go_simp)⟩) (by assumption) ?_
            refine wpAnyH_take (i := 4) (oi := _) (v := .int .i64 p) rfl (by kernel_rfl) (by kernel_rfl) (by kernel_rfl) (fun _ _ _ h => h) (Or.inl ⟨by rfl, (by intro w hSw; go_simp)⟩) (by assumption) ?_
            refine wpAnyH_take (i := 5) (oi := _) (v := .int .i64 p) rfl (by kernel_rfl) (by kernel_rfl) (by kernel_rfl) (fun _ _ _ h => h) (Or.inl ⟨by rfl, (by intro w hSw; go_simp)⟩) (by assumption) ?_
            go_simp
            refine wpAnyH_take (i := 6) (oi := _) (v := .bool false) rfl (by kernel_rfl) (by kernel_rfl) (by kernel_rfl) (fun _ _ _ h => h) (Or.inl ⟨by rfl, (by intro w hSw; go_simp)⟩) (by assumption) ?_
            refine wpAnyH_take (i := 7) (oi := _) (v := .bool false) rfl (by kernel_rfl) (by kernel_rfl) (by kernel_rfl) (fun _ _ _ h => h) (Or.inl ⟨by rfl, (by intro w hSw; go_simp)⟩) (by assumption) ?_
            refine wpAnyH_take (i := 8) (oi := _) (v := .bool false) rfl (by kernel_rfl) (by kernel_rfl) (by kernel_rfl) (fun _ _ _ h => h) (Or.inl ⟨by rfl, (by intro w hSw; go_simp)⟩) (by assumption) ?_
            go_simp
            refine wpAnyH_take (i := 9) (oi := _) (v := .bool b) rfl (by kernel_rfl) (by kernel_rfl) (by kernel_rfl) (fun _ _ _ h => h) (Or.inl ⟨by rfl, (by intro w hSw; go_simp)⟩) (by assumption) ?_
            refine wpAnyH_take (i := 10) (oi := _) (v := .bool b) rfl (by kernel_rfl) (by kernel_rfl) (by kernel_rfl) (fun _ _ _ h => h) (Or.inl ⟨by rfl, (by intro w hSw; go_simp)⟩) (by assumption) ?_
            refine wpAnyH_take (i := 11) (oi := _) (v := .bool false) rfl (by kernel_rfl) (by kernel_rfl) (by kernel_rfl) (fun _ _ _ h => h) (Or.inl ⟨by rfl, (by intro w hSw; go_simp)⟩) (by assumption) ?_
            go_simp
            refine wpAnyH_take (i := 12) (oi := _) (v := .bool false) rfl (by kernel_rfl) (by kernel_rfl) (by kernel_rfl) (fun _ _ _ h => h) (Or.inl ⟨by rfl, (by intro w hSw; go_simp)⟩) (by assumption) ?_
            refine wpAnyH_take (i := 13) (oi := _) (v := .bool false) rfl (by kernel_rfl) (by kernel_rfl) (by kernel_rfl) (fun _ _ _ h => h) (Or.inl ⟨by rfl, (by intro w hSw; go_simp)⟩) (by assumption) ?_
            refine wpAnyH_take (i := 14) (oi := _) (v := .agg #[.int .i64 o, .int .i64 a]) rfl (by kernel_rfl) (by kernel_rfl) (by kernel_rfl) (fun _ _ _ h => h) (Or.inl ⟨by rfl, (by intro w hSw; obtain ⟨hs0, hs1⟩ := hSw; go_simp)⟩) (by assumption) ?_
            go_simp
            refine wpAnyH_take (i := 17) (oi := _) (v := .agg #[.int .i64 o, .int .i64 a]) rfl (by kernel_rfl) (by kernel_rfl) (by kernel_rfl) (fun _ _ _ h => h) (Or.inl ⟨by rfl, (by intro w hSw; obtain ⟨hs0, hs1⟩ := hSw; go_simp)⟩) (by assumption) ?_
            go_simp
            refine wpAnyH_ready (rs := [15]) (by kernel_rfl) (by simp) ?_
            refine AllReadyH.cons (o := _) rfl (fun K hK => ?_) AllReadyH.nil
            go_simp
            refine (unhide HCk _).mono ?_
            rintro e w5 ⟨rfl, hb5⟩
            have hb5' := Below.drewB hb5
            have S5 := unhide HS w5 hb5'
            have B5 := hide (Bl.go (unhide B4) (unhide B4).size hb5')
            clear hb5 hb5'
            go_simp
            refine hK.out _ _ S5 (fun hHeld1 => ?_)
            clear hK K
            refine wpAnyH_ready (rs := [16]) (by kernel_rfl) (by simp) ?_
            refine AllReadyH.cons (o := _) rfl (fun K hK => ?_) AllReadyH.nil
            go_simp
            refine (unhide HNm _ _).mono ?_
            rintro e w5' ⟨rfl, rfl⟩
            go_simp
            refine hK.out _ _ S5 (fun hHeld2 => ?_)
            clear hK K
            refine wpAnyH_ready (rs := [18]) (by kernel_rfl) (by simp) ?_
            refine AllReadyH.cons (o := _) rfl (fun K hK => ?_) AllReadyH.nil
            go_simp
            refine (unhide HDk _).mono ?_
            rintro e w6 ⟨rfl, hb6⟩
            have S6 : w6.cell? ⟨wr.heap.size, 0, none⟩ = some (.int .i64 o) ∧ w6.cell? ⟨wr.heap.size, 1, none⟩ = some (.int .i64 a) := ⟨(hb6.cell (p := ⟨wr.heap.size, 0, none⟩) (World.block_lt_of_cell? _ _ S5.1)).trans S5.1, (hb6.cell (p := ⟨wr.heap.size, 1, none⟩) (World.block_lt_of_cell? _ _ S5.2)).trans S5.2⟩
            have B6 := hide (Bl.go (unhide B5) (unhide B5).size hb6)
            clear hb6
            go_simp
            refine hK.out _ _ S6 (fun hHeld3 => ?_)
            clear hK K
            refine wpAnyH_take (i := 19) (oi := _) (v := .bool false) rfl (by kernel_rfl) (by kernel_rfl) (by kernel_rfl) (fun _ _ _ h => h) (Or.inl ⟨by rfl, (by intro w hSw; go_simp)⟩) (by assumption) ?_
            refine wpAnyH_take (i := 20) (oi := _) (v := .bool false) rfl (by kernel_rfl) (by kernel_rfl) (by kernel_rfl) (fun _ _ _ h => h) (Or.inl ⟨by rfl, (by intro w hSw; go_simp)⟩) (by assumption) ?_
            refine wpAnyH_done (by kernel_rfl) ?_ _
            obtain ⟨i60, i61⟩ := S6
            clear hHeld hHeld1 hHeld2 hHeld3 hS S5
            have l6 : wr.heap.size < w6.heap.size := World.block_lt_of_cell? _ _ i60
            have KD := hide (unhide HDn (w6.alloc (.cells #[.int .i64 o, .int .i64 a] 24)) (.slice (some ⟨w6.heap.size, 0, none⟩) 1 1) (RtV.of_ro (l := [(o, a)]) (Ro.of_own (World.ownsRow_lit (base := 0) (size := 2) w6 #[.int .i64 o, .int .i64 a] 1 (Nat.zero_le _) (by decide) rfl))))
            go_wp2_with fail
            refine (unhide KD).mono ?_
            rintro e w7 ⟨want, rfl, how, hb7⟩
            have A7 := Bl.par hb7
            have i70 := (A7.cell (p := ⟨wr.heap.size, 0, none⟩) l6).trans i60
            have i71 := (A7.cell (p := ⟨wr.heap.size, 1, none⟩) l6).trans i61
            have B7 := hide (Bl.go (unhide B6) (unhide B6).size A7)
            have RW := hide (Rd.of_own how)
            have l7 : wr.heap.size < w7.heap.size := World.block_lt_of_cell? _ _ i70
            have KE := hide (unhide HEn (w7.alloc (.cells #[.int .i64 o, .int .i64 a] 24)) (.slice (some ⟨w7.heap.size, 0, none⟩) 1 1) (RtV.of_ro (l := [(o, a)]) (Ro.of_own (World.ownsRow_lit (base := 0) (size := 2) w7 #[.int .i64 o, .int .i64 a] 1 (Nat.zero_le _) (by decide) rfl))))
            clear how hb7 A7 i60 i61 l6 KD
            go_wp2_with fail
            refine (unhide KE).mono ?_
            rintro e w8 ⟨got, rfl, hog, hb8⟩
            have A8 := Bl.par hb8
            have i80 := (A8.cell (p := ⟨wr.heap.size, 0, none⟩) l7).trans i70
            have i81 := (A8.cell (p := ⟨wr.heap.size, 1, none⟩) l7).trans i71
            have B8 := hide (Bl.go (unhide B7) (unhide B7).size A8)
            have KS := hide (same_any got want xs w8 (Rd.of_own hog) ((unhide RW).below A8))
            have l8 : wr.heap.size < w8.heap.size := World.block_lt_of_cell? _ _ i80
            clear hog hb8 A8 i70 i71 l7 KE
            go_wp2_with fail
            refine (unhide HNm _ _).mono ?_
            rintro e w8' ⟨rfl, rfl⟩
            go_wp2_with fail
            refine (unhide KS).mono ?_
            rintro e w9' ⟨rfl, kk, rfl⟩
            obtain ⟨w9, hw9⟩ : ∃ w9, Hid (w9 = w8'.drewN kk) := ⟨_, rfl⟩
            have A9 : Below w8'.heap.size w8' w9 := by rw [unhide hw9]; exact ⟨rfl, rfl, rfl, Nat.le_refl _, fun _ _ => rfl⟩
            rw [← unhide hw9]
            have i90 := (A9.cell (p := ⟨wr.heap.size, 0, none⟩) l8).trans i80
            have i91 := (A9.cell (p := ⟨wr.heap.size, 1, none⟩) l8).trans i81
            have B9 := hide (Bl.go (unhide B8) (unhide B8).size A9)
            clear A9 hw9 i80 i81 l8 KS
            by_cases ho0 : 0 ≤ o
            · obtain ⟨k, hk⟩ : ∃ k : Nat, o = k := ⟨o.toNat, by omega⟩
              have hk256 : k < 256 := by have := unhide HOo; omega
              have KP := hide (unhide HPu k hk256 w9)
              rw [← hk] at KP
              have HBk := hide (unhide HPb k hk256)
              have HLk := hide (pfm_len k a)
              clear hk
              go_wp2_with fail
              refine (unhide KP).mono ?_
              rintro e w10 ⟨l10, rfl, hR10⟩
              have A10 : Below w9.heap.size w9 w10 := hR10.fr.below (Nat.le_refl _) (fun q hq e => by simp [Value.ownBlock] at e)
              have KR := hide (reads_any l10 (pfm k a) w10 (Rd.of_own hR10.own) (unhide HBk) (by have := unhide HLk; omega))
              have B10 := hide (Bl.go (unhide B9) (unhide B9).size A10)
              clear hR10 A10 KP
              go_wp2_with fail
              refine (unhide KR).mono ?_
              rintro e w11 ⟨rfl, hb11⟩
              have B11 := hide (Bl.go (unhide B10) (unhide B10).size hb11)
              clear hb11
              go_wp2_with fail
              go_roundg (gk - 1)
              case measure => have := unhide hx; omega
              case rel => exact ⟨x + 1, by have := unhide hx; unfold Hid; omega, by go_num, B11⟩
            · go_wp2_with fail
              go_roundg (gk - 1)
              case measure => have := unhide hx; omega
              case rel => exact ⟨x + 1, by have := unhide hx; unfold Hid; omega, by go_num, B9⟩
          · have hx29 : x = 29 := by have := unhide hx; omega
            subst hx29
            go_wp2_with fail
            go_roundg (G0 - 1)
            case measure => have h1 := unhide hG0; have h2 := unhide hi; omega
            case rel => exact ⟨i + 1, by have h1 := unhide hG0; have h2 := unhide hi; unfold Hid; omega, by rw [unhide ho]; go_num, hB⟩
      · have hs0 : decide ((0 : Int) < (s.size : Int)) = false := decide_eq_false (by omega)
        have hs00 : decide (0 < s.size) = false := decide_eq_false hs
        go_wp2_with fail
        refine (unhide HN _ _ _).mono ?_
        rintro e wn0 ⟨rfl, hbn⟩
        have BN0 := hide (Bl.go (unhide BK) (unhide BK).size hbn)
        clear hbn
        go_wp2_with fail
        refine (unhide HN _ _ _).mono ?_
        rintro e wn1 ⟨rfl, hbn⟩
        have BN1 := hide (Bl.go (unhide BN0) (unhide BN0).size hbn)
        clear hbn
        go_wp2_with fail
        refine (unhide HN _ _ _).mono ?_
        rintro e wn2 ⟨rfl, hbn⟩
        have BN2 := hide (Bl.go (unhide BN1) (unhide BN1).size hbn)
        clear hbn
        go_wp2_with fail
        refine (unhide HN _ _ _).mono ?_
        rintro e wn3 ⟨rfl, hbn⟩
        have BN3 := hide (Bl.go (unhide BN2) (unhide BN2).size hbn)
        clear hbn
        go_wp2_with fail
        refine (unhide HN _ _ _).mono ?_
        rintro e wn4 ⟨rfl, hbn⟩
        have BN4 := hide (Bl.go (unhide BN3) (unhide BN3).size hbn)
        clear hbn
        go_wp2_with fail
        go_loopg [5] 29 (fun g t5 wr => ∃ (x : Nat), Hid (x + g = 29) ∧ t5 = .int .i64 (x : Int) ∧ Hid (Below w1.heap.size w1 wr))
        case atStart => exact ⟨0, by unfold Hid; omega, rfl, unhide BN4⟩
        case round =>
          obtain ⟨x, hx, rfl, hB⟩ := hrel
          have E0 := unhide HE
          have lbl : w.heap.size < wr.heap.size := Nat.lt_of_lt_of_le (unhide HLB) (unhide hB).size
          by_cases hlt2 : x < 29
          · obtain ⟨a, ha⟩ : ∃ a, Hid (a = edA x) := ⟨_, rfl⟩
            have cl : wr.cell? ⟨w.heap.size, x, none⟩ = some (.int .i64 a) := by rw [unhide ha]; exact ((unhide hB).cell (p := ⟨w.heap.size, x, none⟩) (unhide HLB)).trans (E0 x hlt2)
            have hIa : I64 a := by rw [unhide ha]; exact edA_I64 x hlt2
            have x0 : (0 : Int) ≤ (x : Int) := by omega
            have x1 : (x : Int) < 29 := by omega
            have H1 := hide (fun w => dEffect_any w o a hIa)
            have H2 := hide (fun w => effect_any w o a)
            have HCk := hide (fun w => check_any w o a)
            have HDk := hide (fun w => dCheck_any w o a hIa)
            have HEn := hide (fun (W : World) (v : Value) (q : RtV W v [(o, a)]) => encode_any q (by simp) (by intro p hp; simp at hp; subst hp; exact ⟨unhide HIo, hIa⟩))
            have HDn := hide (fun (W : World) (v : Value) (q : RtV W v [(o, a)]) => dEncode_any q (by simp) (by intro p hp; simp at hp; subst hp; exact ⟨unhide HIo, hIa⟩))
            have HLn := hide (encB_len [(o, a)])
            have HPu : Hid (∀ (k : Nat) (hk : k < 256) (W : World), Calls Try.prog 21 #[.slice none 0 0, .agg #[.int .i64 (k : Int), .int .i64 a]] W fun e w' => ∃ l, e = .returned l ∧ RG W.heap.size (.slice none 0 0) W l (pfm k a) w') := fun k hk W => by
              have q := dPutG_any W.heap.size (.slice none 0 0) [] k hk a hIa W (by simpa using World.ownsRow_nil _ _ _ _) (Nat.le_refl _) (by simp)
              simpa using q
            have HPb : Hid (∀ k, k < 256 → BOk (pfm k a)) := fun k hk => pfm_bok k hk a hIa
            unfold EncPost at HEn HDn
            generalize okB o a = b at *
            generalize tkI o a = t at *
            generalize ptI o a = p at *
            generalize erN o a = er at *
            generalize encE [(o, a)] = en at *
            generalize encB [(o, a)] = xs at *
            clear hIa E0
            go_wp2_with fail
            refine (unhide H1 _).mono ?_
            rintro e w3 ⟨rfl, hb3⟩
            obtain ⟨c0, c1⟩ := par_cells hb3
            have B3 := hide (Bl.go (unhide hB) (unhide hB).size (Bl.par hb3))
            clear hb3
            go_wp2_with fail
            refine (unhide H2 _).mono ?_
            rintro e w4 ⟨rfl, hb4⟩
            have hS : w4.cell? ⟨wr.heap.size, 0, none⟩ = some (.int .i64 o) ∧ w4.cell? ⟨wr.heap.size, 1, none⟩ = some (.int .i64 a) := ⟨(hb4.cell (p := ⟨wr.heap.size, 0, none⟩) (World.block_lt_of_cell? _ _ c0)).trans c0, (hb4.cell (p := ⟨wr.heap.size, 1, none⟩) (World.block_lt_of_cell? _ _ c1)).trans c1⟩
            have HS : Hid (∀ w5, Below w4.heap.size w4 w5 → w5.cell? ⟨wr.heap.size, 0, none⟩ = some (.int .i64 o) ∧ w5.cell? ⟨wr.heap.size, 1, none⟩ = some (.int .i64 a)) := fun w5 hb => ⟨(hb.cell (p := ⟨wr.heap.size, 0, none⟩) (World.block_lt_of_cell? _ _ hS.1)).trans hS.1, (hb.cell (p := ⟨wr.heap.size, 1, none⟩) (World.block_lt_of_cell? _ _ hS.2)).trans hS.2⟩
            have B4 := hide (Bl.go (unhide B3) (unhide B3).size hb4)
            clear hb4 c0 c1
            go_wp2_with fail
            refine wp_region_held_drew (S := (fun wx => wx.cell? ⟨wr.heap.size, 0, none⟩ = some (.int .i64 o) ∧ wx.cell? ⟨wr.heap.size, 1, none⟩ = some (.int .i64 a))) (by kernel_rfl) hS (fun hHeld => ?_)
            refine wpAnyH_take (i := 0) (oi := _) (v := .int .i64 t) rfl (by kernel_rfl) (by kernel_rfl) (by kernel_rfl) (fun _ _ _ h => h) (Or.inl ⟨by rfl, (by intro w hSw; go_simp)⟩) (by assumption) ?_
            refine wpAnyH_take (i := 1) (oi := _) (v := .int .i64 t) rfl (by kernel_rfl) (by kernel_rfl) (by kernel_rfl) (fun _ _ _ h => h) (Or.inl ⟨by rfl, (by intro w hSw; go_simp)⟩) (by assumption) ?_
            refine wpAnyH_take (i := 2) (oi := _) (v := .bool false) rfl (by kernel_rfl) (by kernel_rfl) (by kernel_rfl) (fun _ _ _ h => h) (Or.inl ⟨by rfl, (by intro w hSw; go_simp)⟩) (by assumption) ?_
            go_simp
            refine wpAnyH_take (i := 3) (oi := _) (v := .bool false) rfl (by kernel_rfl) (by kernel_rfl) (by kernel_rfl) (fun _ _ _ h => h) (Or.inl ⟨by rfl, (by intro w hSw; go_simp)⟩) (by assumption) ?_
            refine wpAnyH_take (i := 4) (oi := _) (v := .int .i64 p) rfl (by kernel_rfl) (by kernel_rfl) (by kernel_rfl) (fun _ _ _ h => h) (Or.inl ⟨by rfl, (by intro w hSw; go_simp)⟩) (by assumption) ?_
            refine wpAnyH_take (i := 5) (oi := _) (v := .int .i64 p) rfl (by kernel_rfl) (by kernel_rfl) (by kernel_rfl) (fun _ _ _ h => h) (Or.inl ⟨by rfl, (by intro w hSw; go_simp)⟩) (by assumption) ?_
            go_simp
            refine wpAnyH_take (i := 6) (oi := _) (v := .bool false) rfl (by kernel_rfl) (by kernel_rfl) (by kernel_rfl) (fun _ _ _ h => h) (Or.inl ⟨by rfl, (by intro w hSw; go_simp)⟩) (by assumption) ?_
            refine wpAnyH_take (i := 7) (oi := _) (v := .bool false) rfl (by kernel_rfl) (by kernel_rfl) (by kernel_rfl) (fun _ _ _ h => h) (Or.inl ⟨by rfl, (by intro w hSw; go_simp)⟩) (by assumption) ?_
            refine wpAnyH_take (i := 8) (oi := _) (v := .bool false) rfl (by kernel_rfl) (by kernel_rfl) (by kernel_rfl) (fun _ _ _ h => h) (Or.inl ⟨by rfl, (by intro w hSw; go_simp)⟩) (by assumption) ?_
            go_simp
            refine wpAnyH_take (i := 9) (oi := _) (v := .bool b) rfl (by kernel_rfl) (by kernel_rfl) (by kernel_rfl) (fun _ _ _ h => h) (Or.inl ⟨by rfl, (by intro w hSw; go_simp)⟩) (by assumption) ?_
            refine wpAnyH_take (i := 10) (oi := _) (v := .bool b) rfl (by kernel_rfl) (by kernel_rfl) (by kernel_rfl) (fun _ _ _ h => h) (Or.inl ⟨by rfl, (by intro w hSw; go_simp)⟩) (by assumption) ?_
            refine wpAnyH_take (i := 11) (oi := _) (v := .bool false) rfl (by kernel_rfl) (by kernel_rfl) (by kernel_rfl) (fun _ _ _ h => h) (Or.inl ⟨by rfl, (by intro w hSw; go_simp)⟩) (by assumption) ?_
            go_simp
            refine wpAnyH_take (i := 12) (oi := _) (v := .bool false) rfl (by kernel_rfl) (by kernel_rfl) (by kernel_rfl) (fun _ _ _ h => h) (Or.inl ⟨by rfl, (by intro w hSw; go_simp)⟩) (by assumption) ?_
            refine wpAnyH_take (i := 13) (oi := _) (v := .bool false) rfl (by kernel_rfl) (by kernel_rfl) (by kernel_rfl) (fun _ _ _ h => h) (Or.inl ⟨by rfl, (by intro w hSw; go_simp)⟩) (by assumption) ?_
            refine wpAnyH_take (i := 14) (oi := _) (v := .agg #[.int .i64 o, .int .i64 a]) rfl (by kernel_rfl) (by kernel_rfl) (by kernel_rfl) (fun _ _ _ h => h) (Or.inl ⟨by rfl, (by intro w hSw; obtain ⟨hs0, hs1⟩ := hSw; go_simp)⟩) (by assumption) ?_
            go_simp
            refine wpAnyH_take (i := 17) (oi := _) (v := .agg #[.int .i64 o, .int .i64 a]) rfl (by kernel_rfl) (by kernel_rfl) (by kernel_rfl) (fun _ _ _ h => h) (Or.inl ⟨by rfl, (by intro w hSw; obtain ⟨hs0, hs1⟩ := hSw; go_simp)⟩) (by assumption) ?_
            go_simp
            refine wpAnyH_ready (rs := [15]) (by kernel_rfl) (by simp) ?_
            refine AllReadyH.cons (o := _) rfl (fun K hK => ?_) AllReadyH.nil
            go_simp
            refine (unhide HCk _).mono ?_
            rintro e w5 ⟨rfl, hb5⟩
            have hb5' := Below.drewB hb5
            have S5 := unhide HS w5 hb5'
            have B5 := hide (Bl.go (unhide B4) (unhide B4).size hb5')
            clear hb5 hb5'
            go_simp
            refine hK.out _ _ S5 (fun hHeld1 => ?_)
            clear hK K
            refine wpAnyH_ready (rs := [16]) (by kernel_rfl) (by simp) ?_
            refine AllReadyH.cons (o := _) rfl (fun K hK => ?_) AllReadyH.nil
            go_simp
            refine (unhide HNm _ _).mono ?_
            rintro e w5' ⟨rfl, rfl⟩
            go_simp
            refine hK.out _ _ S5 (fun hHeld2 => ?_)
            clear hK K
            refine wpAnyH_ready (rs := [18]) (by kernel_rfl) (by simp) ?_
            refine AllReadyH.cons (o := _) rfl (fun K hK => ?_) AllReadyH.nil
            go_simp
            refine (unhide HDk _).mono ?_
            rintro e w6 ⟨rfl, hb6⟩
            have S6 : w6.cell? ⟨wr.heap.size, 0, none⟩ = some (.int .i64 o) ∧ w6.cell? ⟨wr.heap.size, 1, none⟩ = some (.int .i64 a) := ⟨(hb6.cell (p := ⟨wr.heap.size, 0, none⟩) (World.block_lt_of_cell? _ _ S5.1)).trans S5.1, (hb6.cell (p := ⟨wr.heap.size, 1, none⟩) (World.block_lt_of_cell? _ _ S5.2)).trans S5.2⟩
            have B6 := hide (Bl.go (unhide B5) (unhide B5).size hb6)
            clear hb6
            go_simp
            refine hK.out _ _ S6 (fun hHeld3 => ?_)
            clear hK K
            refine wpAnyH_take (i := 19) (oi := _) (v := .bool false) rfl (by kernel_rfl) (by kernel_rfl) (by kernel_rfl) (fun _ _ _ h => h) (Or.inl ⟨by rfl, (by intro w hSw; go_simp)⟩) (by assumption) ?_
            refine wpAnyH_take (i := 20) (oi := _) (v := .bool false) rfl (by kernel_rfl) (by kernel_rfl) (by kernel_rfl) (fun _ _ _ h => h) (Or.inl ⟨by rfl, (by intro w hSw; go_simp)⟩) (by assumption) ?_
            refine wpAnyH_done (by kernel_rfl) ?_ _
            obtain ⟨i60, i61⟩ := S6
            clear hHeld hHeld1 hHeld2 hHeld3 hS S5
            have l6 : wr.heap.size < w6.heap.size := World.block_lt_of_cell? _ _ i60
            have KD := hide (unhide HDn (w6.alloc (.cells #[.int .i64 o, .int .i64 a] 24)) (.slice (some ⟨w6.heap.size, 0, none⟩) 1 1) (RtV.of_ro (l := [(o, a)]) (Ro.of_own (World.ownsRow_lit (base := 0) (size := 2) w6 #[.int .i64 o, .int .i64 a] 1 (Nat.zero_le _) (by decide) rfl))))
            go_wp2_with fail
            refine (unhide KD).mono ?_
            rintro e w7 ⟨want, rfl, how, hb7⟩
            have A7 := Bl.par hb7
            have i70 := (A7.cell (p := ⟨wr.heap.size, 0, none⟩) l6).trans i60
            have i71 := (A7.cell (p := ⟨wr.heap.size, 1, none⟩) l6).trans i61
            have B7 := hide (Bl.go (unhide B6) (unhide B6).size A7)
            have RW := hide (Rd.of_own how)
            have l7 : wr.heap.size < w7.heap.size := World.block_lt_of_cell? _ _ i70
            have KE := hide (unhide HEn (w7.alloc (.cells #[.int .i64 o, .int .i64 a] 24)) (.slice (some ⟨w7.heap.size, 0, none⟩) 1 1) (RtV.of_ro (l := [(o, a)]) (Ro.of_own (World.ownsRow_lit (base := 0) (size := 2) w7 #[.int .i64 o, .int .i64 a] 1 (Nat.zero_le _) (by decide) rfl))))
            clear how hb7 A7 i60 i61 l6 KD
            go_wp2_with fail
            refine (unhide KE).mono ?_
            rintro e w8 ⟨got, rfl, hog, hb8⟩
            have A8 := Bl.par hb8
            have i80 := (A8.cell (p := ⟨wr.heap.size, 0, none⟩) l7).trans i70
            have i81 := (A8.cell (p := ⟨wr.heap.size, 1, none⟩) l7).trans i71
            have B8 := hide (Bl.go (unhide B7) (unhide B7).size A8)
            have KS := hide (same_any got want xs w8 (Rd.of_own hog) ((unhide RW).below A8))
            have l8 : wr.heap.size < w8.heap.size := World.block_lt_of_cell? _ _ i80
            clear hog hb8 A8 i70 i71 l7 KE
            go_wp2_with fail
            refine (unhide HNm _ _).mono ?_
            rintro e w8' ⟨rfl, rfl⟩
            go_wp2_with fail
            refine (unhide KS).mono ?_
            rintro e w9' ⟨rfl, kk, rfl⟩
            obtain ⟨w9, hw9⟩ : ∃ w9, Hid (w9 = w8'.drewN kk) := ⟨_, rfl⟩
            have A9 : Below w8'.heap.size w8' w9 := by rw [unhide hw9]; exact ⟨rfl, rfl, rfl, Nat.le_refl _, fun _ _ => rfl⟩
            rw [← unhide hw9]
            have i90 := (A9.cell (p := ⟨wr.heap.size, 0, none⟩) l8).trans i80
            have i91 := (A9.cell (p := ⟨wr.heap.size, 1, none⟩) l8).trans i81
            have B9 := hide (Bl.go (unhide B8) (unhide B8).size A9)
            clear A9 hw9 i80 i81 l8 KS
            by_cases ho0 : 0 ≤ o
            · obtain ⟨k, hk⟩ : ∃ k : Nat, o = k := ⟨o.toNat, by omega⟩
              have hk256 : k < 256 := by have := unhide HOo; omega
              have KP := hide (unhide HPu k hk256 w9)
              rw [← hk] at KP
              have HBk := hide (unhide HPb k hk256)
              have HLk := hide (pfm_len k a)
              clear hk
              go_wp2_with fail
              refine (unhide KP).mono ?_
              rintro e w10 ⟨l10, rfl, hR10⟩
              have A10 : Below w9.heap.size w9 w10 := hR10.fr.below (Nat.le_refl _) (fun q hq e => by simp [Value.ownBlock] at e)
              have KR := hide (reads_any l10 (pfm k a) w10 (Rd.of_own hR10.own) (unhide HBk) (by have := unhide HLk; omega))
              have B10 := hide (Bl.go (unhide B9) (unhide B9).size A10)
              clear hR10 A10 KP
              go_wp2_with fail
              refine (unhide KR).mono ?_
              rintro e w11 ⟨rfl, hb11⟩
              have B11 := hide (Bl.go (unhide B10) (unhide B10).size hb11)
              clear hb11
              go_wp2_with fail
              go_roundg (gk - 1)
              case measure => have := unhide hx; omega
              case rel => exact ⟨x + 1, by have := unhide hx; unfold Hid; omega, by go_num, B11⟩
            · go_wp2_with fail
              go_roundg (gk - 1)
              case measure => have := unhide hx; omega
              case rel => exact ⟨x + 1, by have := unhide hx; unfold Hid; omega, by go_num, B9⟩
          · have hx29 : x = 29 := by have := unhide hx; omega
            subst hx29
            go_wp2_with fail
            go_roundg (G0 - 1)
            case measure => have h1 := unhide hG0; have h2 := unhide hi; omega
            case rel => exact ⟨i + 1, by have h1 := unhide hG0; have h2 := unhide hi; unfold Hid; omega, by rw [unhide ho]; go_num, hB⟩
    · have hi71 : i = 71 := by have := unhide hi; omega
      subst hi71
      go_wp2_with fail
      refine (unhide HLo _).mono ?_
      rintro e w2 ⟨rfl, hb2⟩
      have B2 := hide (Bl.go (Bl.go (unhide B1) (unhide B1).size (unhide hB)) (Nat.le_trans (unhide B1).size (unhide hB).size) hb2)
      clear hb2
      go_wp2_with fail
      go_ret
      exact ⟨rfl, unhide B2⟩
end Go.Proofs.Ytonnkaphomonpaa
