/-
  What a spot has seen: reals.
-/
import Derived.Test.YtncmegafkccblaaSw
namespace Go.Proofs.Ytncmegafkccblaa
open Go.RowKit
set_option linter.unusedVariables false
set_option linter.unusedSimpArgs false
set_option maxRecDepth 100000 in
set_option maxHeartbeats 8000000 in
theorem saw3 (w : World) (op cnt A B cal : Int) : Calls Try.prog 7 #[.int .i64 op, .agg #[.int .i64 cnt, .int .u16 A, .int .u16 B, .int .i64 cal]] w fun e w' => e = .returned (.bool (okB op 0 && (decide (op ∈ W3) && ((A == 8) && (decide (tkI op 0 < 2) || (B == 8)))))) ∧ Below w.heap.size w w' := by
  obtain ⟨n, hn⟩ : ∃ n : Nat, tkI op 0 = (n : Int) := ⟨(tkI op 0).toNat, by have := tkI_le op; omega⟩
  have hn3 : n ≤ 3 := by have := tkI_le op; omega
  have HT := hide (fun w => takes_any w op)
  have HW := hide (fun (W : World) (g c : Nat) (ha : Ar W g 0 n 3) => whole3_any (c := c) hn ha)
  have HR := hide (fun (W : World) (xb : Nat) (hx : W.cell? ⟨xb, 0, none⟩ = some (.int .i64 3)) (hy : W.cell? ⟨xb, 0 + 1, none⟩ = some (.int .i64 0)) => repeat_all (xc := 1) n hn3 hx hy)
  rw [hn] at HT ⊢
  clear hn
  generalize decide (op ∈ W3) = b at HW ⊢
  generalize okB op 0 = ok at HT ⊢
  have H0 := hide (Bs.made w #[.int .i64 cnt, .int .u16 A, .int .u16 B, .int .i64 cal] (.cells #[] 29))
  go_enter Try.func7, Try.ntmps7
  go_wp2_with fail
  refine (unhide HT _).mono ?_
  rintro e w1 ⟨rfl, b1⟩
  have H1 := hide ((unhide H0).go b1)
  clear b1 H0 HT
  cases ok
  · go_wp2_with fail
    go_ret
    exact ⟨rfl, (unhide H1).b⟩
  · go_wp2_with fail
    refine wp_region_held_drew (S := (fun W => Bs w #[.int .i64 cnt, .int .u16 A, .int .u16 B, .int .i64 cal] W)) (by kernel_rfl) ((unhide H1).drew) (fun hHeld => ?_)
    clear hHeld
    have HD := hide (unhide H1).drew
    clear H1
    refine wpAnyH_take (i := 0) (oi := _) (v := .int .i64 op) rfl (by kernel_rfl) (by kernel_rfl) (by kernel_rfl) (fun _ _ _ h => h) (Or.inl ⟨by rfl, (by intro w' hSw; go_simp)⟩) (unhide HD) ?_
    go_simp
    refine wpAnyH_take (i := 1) (oi := _) (v := .agg #[]) rfl (by kernel_rfl) (by kernel_rfl) (by kernel_rfl) (fun _ _ _ h => h) (Or.inl ⟨by rfl, (by intro w' hSw; go_simp)⟩) (unhide HD) ?_
    go_simp
    refine wpAnyH_take (i := 2) (oi := _) (v := .iface 29 (.agg #[])) rfl (by kernel_rfl) (by kernel_rfl) (by kernel_rfl) (fun _ _ _ h => h) (Or.inl ⟨by rfl, (by intro w' hSw; go_simp)⟩) (unhide HD) ?_
    go_simp
    refine wpAnyH_take (i := 4) (oi := _) (v := .agg #[]) rfl (by kernel_rfl) (by kernel_rfl) (by kernel_rfl) (fun _ _ _ h => h) (Or.inl ⟨by rfl, (by intro w' hSw; go_simp)⟩) (unhide HD) ?_
    go_simp
    refine wpAnyH_take (i := 5) (oi := _) (v := .iface 29 (.agg #[])) rfl (by kernel_rfl) (by kernel_rfl) (by kernel_rfl) (fun _ _ _ h => h) (Or.inl ⟨by rfl, (by intro w' hSw; go_simp)⟩) (unhide HD) ?_
    go_simp
    refine wpAnyH_take (i := 9) (oi := _) (v := .int .i64 (n : Int)) rfl (by kernel_rfl) (by kernel_rfl) (by kernel_rfl) (fun _ _ _ h => h) (Or.inl ⟨by rfl, (by intro w' hSw; go_simp)⟩) (unhide HD) ?_
    go_simp
    generalize w1.drew = wd at HD ⊢
    refine wpAnyH_ready (rs := [3, 15]) (by kernel_rfl) (by simp) ?_
    refine AllReadyH.cons (o := _) rfl (fun K hK => ?_) (AllReadyH.cons (o := _) rfl (fun K hK => ?_) AllReadyH.nil)
    · go_simp
      refine (kind3 _).mono ?_
      rintro e w2 ⟨rfl, hb⟩
      have HS1 := hide ((unhide HD).go hb)
      clear hb
      refine hK.out _ _ (unhide HS1) (fun _ => ?_)
      clear hK K
      go_simp
      refine wpAnyH_ready (rs := [6, 15]) (by kernel_rfl) (by simp) ?_
      refine AllReadyH.cons (o := _) rfl (fun K hK => ?_) (AllReadyH.cons (o := _) rfl (fun K hK => ?_) AllReadyH.nil)
      · go_simp
        refine (kind3 _).mono ?_
        rintro e w4 ⟨rfl, hb⟩
        have HS3 := hide ((unhide HS1).go hb)
        clear hb
        refine hK.out _ _ (unhide HS3) (fun _ => ?_)
        clear hK K
        go_simp
        refine wpAnyH_take (i := 7) (oi := _) (v := .agg #[.int .i64 3, .int .i64 0]) rfl (by kernel_rfl) (by kernel_rfl) (by kernel_rfl) (fun _ _ _ h => h) (Or.inl ⟨by rfl, (by intro w' hSw; go_simp)⟩) (unhide HS3) ?_
        go_simp
        refine wpAnyH_ready (rs := [8, 15]) (by kernel_rfl) (by simp) ?_
        refine AllReadyH.cons (o := _) rfl (fun K hK => ?_) (AllReadyH.cons (o := _) rfl (fun K hK => ?_) AllReadyH.nil)
        · go_simp
          have HS5 := hide ((unhide HS3).go (bl_one _ (.cells #[.int .i64 3, .int .i64 0] 38)))
          have HC6 := hide (B1.made w4 (.int .i64 3) (.int .i64 0) 38).cells
          generalize w4.alloc (.cells #[.int .i64 3, .int .i64 0] 38) = w7 at HS5 HC6  ⊢
          refine hK.out _ _ (unhide HS5) (fun _ => ?_)
          clear hK K
          go_simp
          refine wpAnyH_ready (rs := [10, 15]) (by kernel_rfl) (by simp) ?_
          refine AllReadyH.cons (o := _) rfl (fun K hK => ?_) (AllReadyH.cons (o := _) rfl (fun K hK => ?_) AllReadyH.nil)
          · go_simp
            refine (unhide HR _ _ (unhide HC6).1 (unhide HC6).2).mono ?_
            rintro e w9 ⟨g, rfl, hA, hb⟩
            have HA := hide hA
            clear hA
            have HS8 := hide ((unhide HS5).go hb)
            clear hb
            refine hK.out _ _ (unhide HS8) (fun _ => ?_)
            clear hK K
            go_simp
            refine wpAnyH_ready (rs := [11, 15]) (by kernel_rfl) (by simp) ?_
            refine AllReadyH.cons (o := _) rfl (fun K hK => ?_) (AllReadyH.cons (o := _) rfl (fun K hK => ?_) AllReadyH.nil)
            · go_simp
              refine (unhide HW _ g n (unhide HA)).mono ?_
              rintro e w11 ⟨x, y, rfl, hb⟩
              have HS10 := hide ((unhide HS8).go hb)
              clear hb
              refine hK.out _ _ (unhide HS10) (fun _ => ?_)
              clear hK K
              go_simp
              refine wpAnyH_take (i := 12) (oi := _) (v := .tuple #[.agg #[.int .i64 x, .int .i64 y], .bool b]) rfl (by kernel_rfl) (by kernel_rfl) (by kernel_rfl) (fun _ _ _ h => h) (Or.inl ⟨by rfl, (by intro w' hSw; go_simp)⟩) (unhide HS10) ?_
              go_simp
              refine wpAnyH_take (i := 13) (oi := _) (v := .agg #[.int .i64 x, .int .i64 y]) rfl (by kernel_rfl) (by kernel_rfl) (by kernel_rfl) (fun _ _ _ h => h) (Or.inl ⟨by rfl, (by intro w' hSw; go_simp)⟩) (unhide HS10) ?_
              go_simp
              refine wpAnyH_take (i := 14) (oi := _) (v := .bool b) rfl (by kernel_rfl) (by kernel_rfl) (by kernel_rfl) (fun _ _ _ h => h) (Or.inl ⟨by rfl, (by intro w' hSw; go_simp)⟩) (unhide HS10) ?_
              go_simp
              refine wpAnyH_ready (rs := [15]) (by kernel_rfl) (by simp) ?_
              refine AllReadyH.cons (o := _) rfl (fun K hK => ?_) AllReadyH.nil
              go_simp
              have HS12 := hide ((unhide HS10).go (bl_one _ (.cells #[.int .i64 0, .int .i64 0] 38)))
              have HQ13 := hide (B1.made w11 (.int .i64 0) (.int .i64 0) 38)
              have BL15 := hide (bl_one w11 (.cells #[.int .i64 0, .int .i64 0] 38))
              generalize w11.alloc (.cells #[.int .i64 0, .int .i64 0] 38) = w14 at HS12 HQ13 BL15 ⊢
              refine hK.out _ _ (unhide HS12) (fun _ => ?_)
              clear hK K
              go_simp
              obtain ⟨q0, q1⟩ := (unhide HQ13).cells
              obtain ⟨⟨f0, f1⟩, l⟩ := (unhide HQ13).fro
              have HS9 := hide (((unhide HS12).set (unhide HS10) 0 (.int .i64 x)).set (unhide HS10) 1 (.int .i64 y))
              refine wpAnyH_ready (rs := [16]) (by kernel_rfl) (by simp) ?_
              refine AllReadyH.cons (o := _) rfl (fun K hK => ?_) AllReadyH.nil
              go_simp
              refine hK.out _ _ (unhide HS9) (fun _ => ?_)
              clear hK K
              go_simp
              refine wpAnyH_ready (rs := [17]) (by kernel_rfl) (by simp) ?_
              refine AllReadyH.cons (o := _) rfl (fun K hK => ?_) AllReadyH.nil
              go_simp
              refine hK.out _ _ (unhide HS9) (fun _ => ?_)
              clear hK K
              go_simp
              refine wpAnyH_done (by kernel_rfl) ?_ _
              cases b
              · go_wp2_with fail
                go_ret
                exact ⟨rfl, (unhide HS9).b⟩
              · go_wp2_with fail
                refine (kind3 _).mono ?_
                rintro e w9 ⟨rfl, hb⟩
                have HZ := hide ((unhide HS9).go hb)
                clear hb HS9
                obtain ⟨c0, c1, c2, c3⟩ := (unhide HZ).cells
                by_cases hA : A = 8
                · subst hA
                  by_cases hlt : n < 2
                  · have i1 : (n : Int) < 2 := by omega
                    go_wp2_with fail
                    go_ret
                    exact ⟨by simp [i1], (unhide HZ).b⟩
                  · have i1 : ¬ (n : Int) < 2 := by omega
                    go_wp2_with fail
                    go_ret
                    exact ⟨by simp [i1], (unhide HZ).b⟩
                · have eA : (A == 8) = false := by simp [hA]
                  go_wp2_with fail
                  go_ret
                  exact ⟨by simp [eA], (unhide HZ).b⟩
            · go_simp
              have HS16 := hide ((unhide HS8).go (bl_one _ (.cells #[.int .i64 0, .int .i64 0] 38)))
              have HQ17 := hide (B1.made w9 (.int .i64 0) (.int .i64 0) 38)
              have BL19 := hide (bl_one w9 (.cells #[.int .i64 0, .int .i64 0] 38))
              generalize w9.alloc (.cells #[.int .i64 0, .int .i64 0] 38) = w18 at HS16 HQ17 BL19 ⊢
              refine hK.out _ _ (unhide HS16) (fun _ => ?_)
              clear hK K
              go_simp
              have HA := hide ((unhide HA).go (unhide BL19))
              refine wpAnyH_ready (rs := [11]) (by kernel_rfl) (by simp) ?_
              refine AllReadyH.cons (o := _) rfl (fun K hK => ?_) AllReadyH.nil
              go_simp
              refine (unhide HW _ g n (unhide HA)).mono ?_
              rintro e w21 ⟨x, y, rfl, hb⟩
              have HS20 := hide ((unhide HS16).go hb)
              have HQ22 := hide ((unhide HQ17).go hb)
              clear hb
              refine hK.out _ _ (unhide HS20) (fun _ => ?_)
              clear hK K
              go_simp
              refine wpAnyH_take (i := 12) (oi := _) (v := .tuple #[.agg #[.int .i64 x, .int .i64 y], .bool b]) rfl (by kernel_rfl) (by kernel_rfl) (by kernel_rfl) (fun _ _ _ h => h) (Or.inl ⟨by rfl, (by intro w' hSw; go_simp)⟩) (unhide HS20) ?_
              go_simp
              refine wpAnyH_take (i := 13) (oi := _) (v := .agg #[.int .i64 x, .int .i64 y]) rfl (by kernel_rfl) (by kernel_rfl) (by kernel_rfl) (fun _ _ _ h => h) (Or.inl ⟨by rfl, (by intro w' hSw; go_simp)⟩) (unhide HS20) ?_
              go_simp
              refine wpAnyH_take (i := 14) (oi := _) (v := .bool b) rfl (by kernel_rfl) (by kernel_rfl) (by kernel_rfl) (fun _ _ _ h => h) (Or.inl ⟨by rfl, (by intro w' hSw; go_simp)⟩) (unhide HS20) ?_
              go_simp
              obtain ⟨q0, q1⟩ := (unhide HQ22).cells
              obtain ⟨⟨f0, f1⟩, l⟩ := (unhide HQ22).fro
              have HS9 := hide (((unhide HS20).set (unhide HS8) 0 (.int .i64 x)).set (unhide HS8) 1 (.int .i64 y))
              refine wpAnyH_ready (rs := [16]) (by kernel_rfl) (by simp) ?_
              refine AllReadyH.cons (o := _) rfl (fun K hK => ?_) AllReadyH.nil
              go_simp
              refine hK.out _ _ (unhide HS9) (fun _ => ?_)
              clear hK K
              go_simp
              refine wpAnyH_ready (rs := [17]) (by kernel_rfl) (by simp) ?_
              refine AllReadyH.cons (o := _) rfl (fun K hK => ?_) AllReadyH.nil
              go_simp
              refine hK.out _ _ (unhide HS9) (fun _ => ?_)
              clear hK K
              go_simp
              refine wpAnyH_done (by kernel_rfl) ?_ _
              cases b
              · go_wp2_with fail
                go_ret
                exact ⟨rfl, (unhide HS9).b⟩
              · go_wp2_with fail
                refine (kind3 _).mono ?_
                rintro e w9 ⟨rfl, hb⟩
                have HZ := hide ((unhide HS9).go hb)
                clear hb HS9
                obtain ⟨c0, c1, c2, c3⟩ := (unhide HZ).cells
                by_cases hA : A = 8
                · subst hA
                  by_cases hlt : n < 2
                  · have i1 : (n : Int) < 2 := by omega
                    go_wp2_with fail
                    go_ret
                    exact ⟨by simp [i1], (unhide HZ).b⟩
                  · have i1 : ¬ (n : Int) < 2 := by omega
                    go_wp2_with fail
                    go_ret
                    exact ⟨by simp [i1], (unhide HZ).b⟩
                · have eA : (A == 8) = false := by simp [hA]
                  go_wp2_with fail
                  go_ret
                  exact ⟨by simp [eA], (unhide HZ).b⟩
          · go_simp
            have HS23 := hide ((unhide HS5).go (bl_one _ (.cells #[.int .i64 0, .int .i64 0] 38)))
            have HQ24 := hide (B1.made w7 (.int .i64 0) (.int .i64 0) 38)
            have BL26 := hide (bl_one w7 (.cells #[.int .i64 0, .int .i64 0] 38))
            generalize w7.alloc (.cells #[.int .i64 0, .int .i64 0] 38) = w25 at HS23 HQ24 BL26 ⊢
            refine hK.out _ _ (unhide HS23) (fun _ => ?_)
            clear hK K
            go_simp
            have HC27 := hide (And.intro (((unhide BL26).cell (World.block_lt_of_cell? _ _ (unhide HC6).1)).trans (unhide HC6).1) (((unhide BL26).cell (World.block_lt_of_cell? _ _ (unhide HC6).2)).trans (unhide HC6).2))
            refine wpAnyH_ready (rs := [10]) (by kernel_rfl) (by simp) ?_
            refine AllReadyH.cons (o := _) rfl (fun K hK => ?_) AllReadyH.nil
            go_simp
            refine (unhide HR _ _ (unhide HC27).1 (unhide HC27).2).mono ?_
            rintro e w29 ⟨g, rfl, hA, hb⟩
            have HA := hide hA
            clear hA
            have HS28 := hide ((unhide HS23).go hb)
            have HQ30 := hide ((unhide HQ24).go hb)
            clear hb
            refine hK.out _ _ (unhide HS28) (fun _ => ?_)
            clear hK K
            go_simp
            refine wpAnyH_ready (rs := [11]) (by kernel_rfl) (by simp) ?_
            refine AllReadyH.cons (o := _) rfl (fun K hK => ?_) AllReadyH.nil
            go_simp
            refine (unhide HW _ g n (unhide HA)).mono ?_
            rintro e w32 ⟨x, y, rfl, hb⟩
            have HS31 := hide ((unhide HS28).go hb)
            have HQ33 := hide ((unhide HQ30).go hb)
            clear hb
            refine hK.out _ _ (unhide HS31) (fun _ => ?_)
            clear hK K
            go_simp
            refine wpAnyH_take (i := 12) (oi := _) (v := .tuple #[.agg #[.int .i64 x, .int .i64 y], .bool b]) rfl (by kernel_rfl) (by kernel_rfl) (by kernel_rfl) (fun _ _ _ h => h) (Or.inl ⟨by rfl, (by intro w' hSw; go_simp)⟩) (unhide HS31) ?_
            go_simp
            refine wpAnyH_take (i := 13) (oi := _) (v := .agg #[.int .i64 x, .int .i64 y]) rfl (by kernel_rfl) (by kernel_rfl) (by kernel_rfl) (fun _ _ _ h => h) (Or.inl ⟨by rfl, (by intro w' hSw; go_simp)⟩) (unhide HS31) ?_
            go_simp
            refine wpAnyH_take (i := 14) (oi := _) (v := .bool b) rfl (by kernel_rfl) (by kernel_rfl) (by kernel_rfl) (fun _ _ _ h => h) (Or.inl ⟨by rfl, (by intro w' hSw; go_simp)⟩) (unhide HS31) ?_
            go_simp
            obtain ⟨q0, q1⟩ := (unhide HQ33).cells
            obtain ⟨⟨f0, f1⟩, l⟩ := (unhide HQ33).fro
            have HS9 := hide (((unhide HS31).set (unhide HS5) 0 (.int .i64 x)).set (unhide HS5) 1 (.int .i64 y))
            refine wpAnyH_ready (rs := [16]) (by kernel_rfl) (by simp) ?_
            refine AllReadyH.cons (o := _) rfl (fun K hK => ?_) AllReadyH.nil
            go_simp
            refine hK.out _ _ (unhide HS9) (fun _ => ?_)
            clear hK K
            go_simp
            refine wpAnyH_ready (rs := [17]) (by kernel_rfl) (by simp) ?_
            refine AllReadyH.cons (o := _) rfl (fun K hK => ?_) AllReadyH.nil
            go_simp
            refine hK.out _ _ (unhide HS9) (fun _ => ?_)
            clear hK K
            go_simp
            refine wpAnyH_done (by kernel_rfl) ?_ _
            cases b
            · go_wp2_with fail
              go_ret
              exact ⟨rfl, (unhide HS9).b⟩
            · go_wp2_with fail
              refine (kind3 _).mono ?_
              rintro e w9 ⟨rfl, hb⟩
              have HZ := hide ((unhide HS9).go hb)
              clear hb HS9
              obtain ⟨c0, c1, c2, c3⟩ := (unhide HZ).cells
              by_cases hA : A = 8
              · subst hA
                by_cases hlt : n < 2
                · have i1 : (n : Int) < 2 := by omega
                  go_wp2_with fail
                  go_ret
                  exact ⟨by simp [i1], (unhide HZ).b⟩
                · have i1 : ¬ (n : Int) < 2 := by omega
                  go_wp2_with fail
                  go_ret
                  exact ⟨by simp [i1], (unhide HZ).b⟩
              · have eA : (A == 8) = false := by simp [hA]
                go_wp2_with fail
                go_ret
                exact ⟨by simp [eA], (unhide HZ).b⟩
        · go_simp
          have HS34 := hide ((unhide HS3).go (bl_one _ (.cells #[.int .i64 0, .int .i64 0] 38)))
          have HQ35 := hide (B1.made w4 (.int .i64 0) (.int .i64 0) 38)
          have BL37 := hide (bl_one w4 (.cells #[.int .i64 0, .int .i64 0] 38))
          generalize w4.alloc (.cells #[.int .i64 0, .int .i64 0] 38) = w36 at HS34 HQ35 BL37 ⊢
          refine hK.out _ _ (unhide HS34) (fun _ => ?_)
          clear hK K
          go_simp
          refine wpAnyH_ready (rs := [8]) (by kernel_rfl) (by simp) ?_
          refine AllReadyH.cons (o := _) rfl (fun K hK => ?_) AllReadyH.nil
          go_simp
          have HS38 := hide ((unhide HS34).go (bl_one _ (.cells #[.int .i64 3, .int .i64 0] 38)))
          have HC39 := hide (B1.made w36 (.int .i64 3) (.int .i64 0) 38).cells
          have HQ41 := hide ((unhide HQ35).go (bl_one _ (.cells #[.int .i64 3, .int .i64 0] 38)))
          generalize w36.alloc (.cells #[.int .i64 3, .int .i64 0] 38) = w40 at HS38 HC39 HQ41 ⊢
          refine hK.out _ _ (unhide HS38) (fun _ => ?_)
          clear hK K
          go_simp
          refine wpAnyH_ready (rs := [10]) (by kernel_rfl) (by simp) ?_
          refine AllReadyH.cons (o := _) rfl (fun K hK => ?_) AllReadyH.nil
          go_simp
          refine (unhide HR _ _ (unhide HC39).1 (unhide HC39).2).mono ?_
          rintro e w43 ⟨g, rfl, hA, hb⟩
          have HA := hide hA
          clear hA
          have HS42 := hide ((unhide HS38).go hb)
          have HQ44 := hide ((unhide HQ41).go hb)
          clear hb
          refine hK.out _ _ (unhide HS42) (fun _ => ?_)
          clear hK K
          go_simp
          refine wpAnyH_ready (rs := [11]) (by kernel_rfl) (by simp) ?_
          refine AllReadyH.cons (o := _) rfl (fun K hK => ?_) AllReadyH.nil
          go_simp
          refine (unhide HW _ g n (unhide HA)).mono ?_
          rintro e w46 ⟨x, y, rfl, hb⟩
          have HS45 := hide ((unhide HS42).go hb)
          have HQ47 := hide ((unhide HQ44).go hb)
          clear hb
          refine hK.out _ _ (unhide HS45) (fun _ => ?_)
          clear hK K
          go_simp
          refine wpAnyH_take (i := 12) (oi := _) (v := .tuple #[.agg #[.int .i64 x, .int .i64 y], .bool b]) rfl (by kernel_rfl) (by kernel_rfl) (by kernel_rfl) (fun _ _ _ h => h) (Or.inl ⟨by rfl, (by intro w' hSw; go_simp)⟩) (unhide HS45) ?_
          go_simp
          refine wpAnyH_take (i := 13) (oi := _) (v := .agg #[.int .i64 x, .int .i64 y]) rfl (by kernel_rfl) (by kernel_rfl) (by kernel_rfl) (fun _ _ _ h => h) (Or.inl ⟨by rfl, (by intro w' hSw; go_simp)⟩) (unhide HS45) ?_
          go_simp
          refine wpAnyH_take (i := 14) (oi := _) (v := .bool b) rfl (by kernel_rfl) (by kernel_rfl) (by kernel_rfl) (fun _ _ _ h => h) (Or.inl ⟨by rfl, (by intro w' hSw; go_simp)⟩) (unhide HS45) ?_
          go_simp
          obtain ⟨q0, q1⟩ := (unhide HQ47).cells
          obtain ⟨⟨f0, f1⟩, l⟩ := (unhide HQ47).fro
          have HS9 := hide (((unhide HS45).set (unhide HS3) 0 (.int .i64 x)).set (unhide HS3) 1 (.int .i64 y))
          refine wpAnyH_ready (rs := [16]) (by kernel_rfl) (by simp) ?_
          refine AllReadyH.cons (o := _) rfl (fun K hK => ?_) AllReadyH.nil
          go_simp
          refine hK.out _ _ (unhide HS9) (fun _ => ?_)
          clear hK K
          go_simp
          refine wpAnyH_ready (rs := [17]) (by kernel_rfl) (by simp) ?_
          refine AllReadyH.cons (o := _) rfl (fun K hK => ?_) AllReadyH.nil
          go_simp
          refine hK.out _ _ (unhide HS9) (fun _ => ?_)
          clear hK K
          go_simp
          refine wpAnyH_done (by kernel_rfl) ?_ _
          cases b
          · go_wp2_with fail
            go_ret
            exact ⟨rfl, (unhide HS9).b⟩
          · go_wp2_with fail
            refine (kind3 _).mono ?_
            rintro e w9 ⟨rfl, hb⟩
            have HZ := hide ((unhide HS9).go hb)
            clear hb HS9
            obtain ⟨c0, c1, c2, c3⟩ := (unhide HZ).cells
            by_cases hA : A = 8
            · subst hA
              by_cases hlt : n < 2
              · have i1 : (n : Int) < 2 := by omega
                go_wp2_with fail
                go_ret
                exact ⟨by simp [i1], (unhide HZ).b⟩
              · have i1 : ¬ (n : Int) < 2 := by omega
                go_wp2_with fail
                go_ret
                exact ⟨by simp [i1], (unhide HZ).b⟩
            · have eA : (A == 8) = false := by simp [hA]
              go_wp2_with fail
              go_ret
              exact ⟨by simp [eA], (unhide HZ).b⟩
      · go_simp
        have HS48 := hide ((unhide HS1).go (bl_one _ (.cells #[.int .i64 0, .int .i64 0] 38)))
        have HQ49 := hide (B1.made w2 (.int .i64 0) (.int .i64 0) 38)
        have BL51 := hide (bl_one w2 (.cells #[.int .i64 0, .int .i64 0] 38))
        generalize w2.alloc (.cells #[.int .i64 0, .int .i64 0] 38) = w50 at HS48 HQ49 BL51 ⊢
        refine hK.out _ _ (unhide HS48) (fun _ => ?_)
        clear hK K
        go_simp
        refine wpAnyH_ready (rs := [6]) (by kernel_rfl) (by simp) ?_
        refine AllReadyH.cons (o := _) rfl (fun K hK => ?_) AllReadyH.nil
        go_simp
        refine (kind3 _).mono ?_
        rintro e w53 ⟨rfl, hb⟩
        have HS52 := hide ((unhide HS48).go hb)
        have HQ54 := hide ((unhide HQ49).go hb)
        clear hb
        refine hK.out _ _ (unhide HS52) (fun _ => ?_)
        clear hK K
        go_simp
        refine wpAnyH_take (i := 7) (oi := _) (v := .agg #[.int .i64 3, .int .i64 0]) rfl (by kernel_rfl) (by kernel_rfl) (by kernel_rfl) (fun _ _ _ h => h) (Or.inl ⟨by rfl, (by intro w' hSw; go_simp)⟩) (unhide HS52) ?_
        go_simp
        refine wpAnyH_ready (rs := [8]) (by kernel_rfl) (by simp) ?_
        refine AllReadyH.cons (o := _) rfl (fun K hK => ?_) AllReadyH.nil
        go_simp
        have HS55 := hide ((unhide HS52).go (bl_one _ (.cells #[.int .i64 3, .int .i64 0] 38)))
        have HC56 := hide (B1.made w53 (.int .i64 3) (.int .i64 0) 38).cells
        have HQ58 := hide ((unhide HQ54).go (bl_one _ (.cells #[.int .i64 3, .int .i64 0] 38)))
        generalize w53.alloc (.cells #[.int .i64 3, .int .i64 0] 38) = w57 at HS55 HC56 HQ58 ⊢
        refine hK.out _ _ (unhide HS55) (fun _ => ?_)
        clear hK K
        go_simp
        refine wpAnyH_ready (rs := [10]) (by kernel_rfl) (by simp) ?_
        refine AllReadyH.cons (o := _) rfl (fun K hK => ?_) AllReadyH.nil
        go_simp
        refine (unhide HR _ _ (unhide HC56).1 (unhide HC56).2).mono ?_
        rintro e w60 ⟨g, rfl, hA, hb⟩
        have HA := hide hA
        clear hA
        have HS59 := hide ((unhide HS55).go hb)
        have HQ61 := hide ((unhide HQ58).go hb)
        clear hb
        refine hK.out _ _ (unhide HS59) (fun _ => ?_)
        clear hK K
        go_simp
        refine wpAnyH_ready (rs := [11]) (by kernel_rfl) (by simp) ?_
        refine AllReadyH.cons (o := _) rfl (fun K hK => ?_) AllReadyH.nil
        go_simp
        refine (unhide HW _ g n (unhide HA)).mono ?_
        rintro e w63 ⟨x, y, rfl, hb⟩
        have HS62 := hide ((unhide HS59).go hb)
        have HQ64 := hide ((unhide HQ61).go hb)
        clear hb
        refine hK.out _ _ (unhide HS62) (fun _ => ?_)
        clear hK K
        go_simp
        refine wpAnyH_take (i := 12) (oi := _) (v := .tuple #[.agg #[.int .i64 x, .int .i64 y], .bool b]) rfl (by kernel_rfl) (by kernel_rfl) (by kernel_rfl) (fun _ _ _ h => h) (Or.inl ⟨by rfl, (by intro w' hSw; go_simp)⟩) (unhide HS62) ?_
        go_simp
        refine wpAnyH_take (i := 13) (oi := _) (v := .agg #[.int .i64 x, .int .i64 y]) rfl (by kernel_rfl) (by kernel_rfl) (by kernel_rfl) (fun _ _ _ h => h) (Or.inl ⟨by rfl, (by intro w' hSw; go_simp)⟩) (unhide HS62) ?_
        go_simp
        refine wpAnyH_take (i := 14) (oi := _) (v := .bool b) rfl (by kernel_rfl) (by kernel_rfl) (by kernel_rfl) (fun _ _ _ h => h) (Or.inl ⟨by rfl, (by intro w' hSw; go_simp)⟩) (unhide HS62) ?_
        go_simp
        obtain ⟨q0, q1⟩ := (unhide HQ64).cells
        obtain ⟨⟨f0, f1⟩, l⟩ := (unhide HQ64).fro
        have HS9 := hide (((unhide HS62).set (unhide HS1) 0 (.int .i64 x)).set (unhide HS1) 1 (.int .i64 y))
        refine wpAnyH_ready (rs := [16]) (by kernel_rfl) (by simp) ?_
        refine AllReadyH.cons (o := _) rfl (fun K hK => ?_) AllReadyH.nil
        go_simp
        refine hK.out _ _ (unhide HS9) (fun _ => ?_)
        clear hK K
        go_simp
        refine wpAnyH_ready (rs := [17]) (by kernel_rfl) (by simp) ?_
        refine AllReadyH.cons (o := _) rfl (fun K hK => ?_) AllReadyH.nil
        go_simp
        refine hK.out _ _ (unhide HS9) (fun _ => ?_)
        clear hK K
        go_simp
        refine wpAnyH_done (by kernel_rfl) ?_ _
        cases b
        · go_wp2_with fail
          go_ret
          exact ⟨rfl, (unhide HS9).b⟩
        · go_wp2_with fail
          refine (kind3 _).mono ?_
          rintro e w9 ⟨rfl, hb⟩
          have HZ := hide ((unhide HS9).go hb)
          clear hb HS9
          obtain ⟨c0, c1, c2, c3⟩ := (unhide HZ).cells
          by_cases hA : A = 8
          · subst hA
            by_cases hlt : n < 2
            · have i1 : (n : Int) < 2 := by omega
              go_wp2_with fail
              go_ret
              exact ⟨by simp [i1], (unhide HZ).b⟩
            · have i1 : ¬ (n : Int) < 2 := by omega
              go_wp2_with fail
              go_ret
              exact ⟨by simp [i1], (unhide HZ).b⟩
          · have eA : (A == 8) = false := by simp [hA]
            go_wp2_with fail
            go_ret
            exact ⟨by simp [eA], (unhide HZ).b⟩
    · go_simp
      have HS65 := hide ((unhide HD).go (bl_one _ (.cells #[.int .i64 0, .int .i64 0] 38)))
      have HQ66 := hide (B1.made wd (.int .i64 0) (.int .i64 0) 38)
      have BL68 := hide (bl_one wd (.cells #[.int .i64 0, .int .i64 0] 38))
      generalize wd.alloc (.cells #[.int .i64 0, .int .i64 0] 38) = w67 at HS65 HQ66 BL68 ⊢
      refine hK.out _ _ (unhide HS65) (fun _ => ?_)
      clear hK K
      go_simp
      refine wpAnyH_ready (rs := [3]) (by kernel_rfl) (by simp) ?_
      refine AllReadyH.cons (o := _) rfl (fun K hK => ?_) AllReadyH.nil
      go_simp
      refine (kind3 _).mono ?_
      rintro e w70 ⟨rfl, hb⟩
      have HS69 := hide ((unhide HS65).go hb)
      have HQ71 := hide ((unhide HQ66).go hb)
      clear hb
      refine hK.out _ _ (unhide HS69) (fun _ => ?_)
      clear hK K
      go_simp
      refine wpAnyH_ready (rs := [6]) (by kernel_rfl) (by simp) ?_
      refine AllReadyH.cons (o := _) rfl (fun K hK => ?_) AllReadyH.nil
      go_simp
      refine (kind3 _).mono ?_
      rintro e w73 ⟨rfl, hb⟩
      have HS72 := hide ((unhide HS69).go hb)
      have HQ74 := hide ((unhide HQ71).go hb)
      clear hb
      refine hK.out _ _ (unhide HS72) (fun _ => ?_)
      clear hK K
      go_simp
      refine wpAnyH_take (i := 7) (oi := _) (v := .agg #[.int .i64 3, .int .i64 0]) rfl (by kernel_rfl) (by kernel_rfl) (by kernel_rfl) (fun _ _ _ h => h) (Or.inl ⟨by rfl, (by intro w' hSw; go_simp)⟩) (unhide HS72) ?_
      go_simp
      refine wpAnyH_ready (rs := [8]) (by kernel_rfl) (by simp) ?_
      refine AllReadyH.cons (o := _) rfl (fun K hK => ?_) AllReadyH.nil
      go_simp
      have HS75 := hide ((unhide HS72).go (bl_one _ (.cells #[.int .i64 3, .int .i64 0] 38)))
      have HC76 := hide (B1.made w73 (.int .i64 3) (.int .i64 0) 38).cells
      have HQ78 := hide ((unhide HQ74).go (bl_one _ (.cells #[.int .i64 3, .int .i64 0] 38)))
      generalize w73.alloc (.cells #[.int .i64 3, .int .i64 0] 38) = w77 at HS75 HC76 HQ78 ⊢
      refine hK.out _ _ (unhide HS75) (fun _ => ?_)
      clear hK K
      go_simp
      refine wpAnyH_ready (rs := [10]) (by kernel_rfl) (by simp) ?_
      refine AllReadyH.cons (o := _) rfl (fun K hK => ?_) AllReadyH.nil
      go_simp
      refine (unhide HR _ _ (unhide HC76).1 (unhide HC76).2).mono ?_
      rintro e w80 ⟨g, rfl, hA, hb⟩
      have HA := hide hA
      clear hA
      have HS79 := hide ((unhide HS75).go hb)
      have HQ81 := hide ((unhide HQ78).go hb)
      clear hb
      refine hK.out _ _ (unhide HS79) (fun _ => ?_)
      clear hK K
      go_simp
      refine wpAnyH_ready (rs := [11]) (by kernel_rfl) (by simp) ?_
      refine AllReadyH.cons (o := _) rfl (fun K hK => ?_) AllReadyH.nil
      go_simp
      refine (unhide HW _ g n (unhide HA)).mono ?_
      rintro e w83 ⟨x, y, rfl, hb⟩
      have HS82 := hide ((unhide HS79).go hb)
      have HQ84 := hide ((unhide HQ81).go hb)
      clear hb
      refine hK.out _ _ (unhide HS82) (fun _ => ?_)
      clear hK K
      go_simp
      refine wpAnyH_take (i := 12) (oi := _) (v := .tuple #[.agg #[.int .i64 x, .int .i64 y], .bool b]) rfl (by kernel_rfl) (by kernel_rfl) (by kernel_rfl) (fun _ _ _ h => h) (Or.inl ⟨by rfl, (by intro w' hSw; go_simp)⟩) (unhide HS82) ?_
      go_simp
      refine wpAnyH_take (i := 13) (oi := _) (v := .agg #[.int .i64 x, .int .i64 y]) rfl (by kernel_rfl) (by kernel_rfl) (by kernel_rfl) (fun _ _ _ h => h) (Or.inl ⟨by rfl, (by intro w' hSw; go_simp)⟩) (unhide HS82) ?_
      go_simp
      refine wpAnyH_take (i := 14) (oi := _) (v := .bool b) rfl (by kernel_rfl) (by kernel_rfl) (by kernel_rfl) (fun _ _ _ h => h) (Or.inl ⟨by rfl, (by intro w' hSw; go_simp)⟩) (unhide HS82) ?_
      go_simp
      obtain ⟨q0, q1⟩ := (unhide HQ84).cells
      obtain ⟨⟨f0, f1⟩, l⟩ := (unhide HQ84).fro
      have HS9 := hide (((unhide HS82).set (unhide HD) 0 (.int .i64 x)).set (unhide HD) 1 (.int .i64 y))
      refine wpAnyH_ready (rs := [16]) (by kernel_rfl) (by simp) ?_
      refine AllReadyH.cons (o := _) rfl (fun K hK => ?_) AllReadyH.nil
      go_simp
      refine hK.out _ _ (unhide HS9) (fun _ => ?_)
      clear hK K
      go_simp
      refine wpAnyH_ready (rs := [17]) (by kernel_rfl) (by simp) ?_
      refine AllReadyH.cons (o := _) rfl (fun K hK => ?_) AllReadyH.nil
      go_simp
      refine hK.out _ _ (unhide HS9) (fun _ => ?_)
      clear hK K
      go_simp
      refine wpAnyH_done (by kernel_rfl) ?_ _
      cases b
      · go_wp2_with fail
        go_ret
        exact ⟨rfl, (unhide HS9).b⟩
      · go_wp2_with fail
        refine (kind3 _).mono ?_
        rintro e w9 ⟨rfl, hb⟩
        have HZ := hide ((unhide HS9).go hb)
        clear hb HS9
        obtain ⟨c0, c1, c2, c3⟩ := (unhide HZ).cells
        by_cases hA : A = 8
        · subst hA
          by_cases hlt : n < 2
          · have i1 : (n : Int) < 2 := by omega
            go_wp2_with fail
            go_ret
            exact ⟨by simp [i1], (unhide HZ).b⟩
          · have i1 : ¬ (n : Int) < 2 := by omega
            go_wp2_with fail
            go_ret
            exact ⟨by simp [i1], (unhide HZ).b⟩
        · have eA : (A == 8) = false := by simp [hA]
          go_wp2_with fail
          go_ret
          exact ⟨by simp [eA], (unhide HZ).b⟩
end Go.Proofs.Ytncmegafkccblaa
