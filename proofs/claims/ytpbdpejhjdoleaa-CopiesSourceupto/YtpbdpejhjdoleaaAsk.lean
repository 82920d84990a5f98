/-
  An instruction that does not ask for a register.
-/
import Derived.Test.YtpbdpejhjdoleaaAgL
namespace Go.Proofs.Ytpbdpejhjdoleaa
open Go.RowKit
set_option linter.unusedVariables false
set_option linter.unusedSimpArgs false
theorem ne_reg {o : Op} {r : Int} (h : o ≠ rgO r) : o.k = 0 → ¬ o.n = r := fun a b => h (by cases o; simp only at a b; subst a; subst b; rfl)
set_option maxRecDepth 100000 in
set_option maxHeartbeats 12800000 in
theorem asks_no {w : World} {D : Nat → Prop} {x : RIn} {q : InR} {r : Int} (h : InP D w x q) (hM : OkX x) (hn : ¬ askP x r) :
    Calls Try.prog 19 #[inV q, .int .i64 r] w fun e w' => e = .returned (.bool false) ∧ Below w.heap.size w w' := by
  obtain ⟨rop, rcode, rdst, av, rn, rpc, rneed, ev⟩ := q
  obtain ⟨h1, h2, h3, h4, h5, h6, h7, h8⟩ := h
  simp only at h1 h2 h3 h4 h5 h6 h7 h8
  obtain ⟨aa, ac, ea1, ha1, ha2⟩ := h7.1.shape
  obtain ⟨ea, ec, ee1, he1, he2⟩ := NV.shape h8
  subst ea1 ee1 h1 h2 h3 h4 h5 h6
  have HA := hide (fun i p (hp : x.args[i]? = some p) => h7.1.elem zO hp)
  have HE := hide h8
  obtain ⟨AL, hAL⟩ : ∃ z, Hid (x.args.length = z) := ⟨_, hide rfl⟩
  obtain ⟨EL, hEL⟩ : ∃ z, Hid (x.ex.length = z) := ⟨_, hide rfl⟩
  obtain ⟨m1, m2, m3⟩ := hM
  have HM := hide m3
  have HN1 : Hid (∀ o ∈ x.args, o ≠ rgO r) := fun o ho e => hn (.inl (e ▸ ho))
  have HN2 : Hid (∀ s ∈ x.ex, ∀ o ∈ s.sl, o ≠ rgO r) := fun s hs o ho e => hn (.inr ⟨s, hs, e ▸ ho⟩)
  unfold inV
  dsimp only
  rw [unhide hAL] at ha1 HA m1 ⊢
  rw [unhide hEL] at he1 HE m2 ⊢
  unfold maxLen at ha2 he2
  have H0 := hide ((BX.nil w).add #[.int .i64 x.op, .int .i64 x.code, .int .i64 x.dst, .slice aa AL ac, .int .i64 x.n, .int .i64 x.pc, .int .i64 x.need, .slice ea EL ec] 50)
  simp only [List.nil_append] at H0
  clear h7 h8 m3 hn
  go_enter Try.func19, Try.ntmps19
  go_wp2_with fail
  go_loopg [5] AL (fun gg t5 wr => ∃ (i : Nat), Hid (i + gg = AL) ∧ t5 = .int .i64 (i : Int) ∧ Hid (BX w [(w.heap.size, #[.int .i64 x.op, .int .i64 x.code, .int .i64 x.dst, .slice aa AL ac, .int .i64 x.n, .int .i64 x.pc, .int .i64 x.need, .slice ea EL ec], 50)] wr))
  case atStart => exact ⟨0, by unfold Hid; omega, rfl, H0⟩
  case round =>
    clear H0
    obtain ⟨i, hi, rfl, hC⟩ := hrel
    have x3 := (unhide hC).ce 0 rfl 3
    have xl := (unhide hC).lt (i := 0) rfl
    simp at x3 xl
    by_cases hlt : i < AL
    · have hil : i < x.args.length := by rw [unhide hAL]; exact hlt
      obtain ⟨o, hp⟩ : ∃ p, x.args[i]? = some p := ⟨_, List.getElem?_eq_getElem hil⟩
      obtain ⟨ab, ao, _, e1, _, _, hab, c⟩ := unhide HA i o hp
      cases e1
      have hsb := ne_reg (unhide HN1 o (List.mem_of_getElem? hp))
      have i0 : (0 : Int) ≤ (i : Int) := by omega
      have i1 : (i : Int) < (AL : Int) := by omega
      clear hp
      go_wp2_with fail
      obtain ⟨Y, hY⟩ : ∃ W, Hid (wr.drew = W) := ⟨_, hide rfl⟩
      have HYB : Hid (BX w [(w.heap.size, #[.int .i64 x.op, .int .i64 x.code, .int .i64 x.dst, .slice (some ⟨ab, ao, none⟩) AL ac, .int .i64 x.n, .int .i64 x.pc, .int .i64 x.need, .slice ea EL ec], 50)] Y) := (unhide hC).go (by rw [← unhide hY]; exact ⟨rfl, rfl, rfl, Nat.le_refl _, fun _ _ => rfl⟩)
      have HCE : Hid (∀ W, Below Y.heap.size Y W → W.cell? ⟨w.heap.size, 3, none⟩ = some (.slice (some ⟨ab, ao, none⟩) AL ac) ∧ W.cell? ⟨ab, ao + i * 2, none⟩ = some (.int .i64 o.k) ∧ W.cell? ⟨ab, ao + i * 2 + 1, none⟩ = some (.int .i64 o.n)) := fun W hW0 => by
        have hW := bl_past (unhide HYB).b hW0
        have z := (unhide HYB).go hW0
        exact ⟨z.ce 0 rfl 3, (hW.cell (p := ⟨ab, ao + i * 2 + 0, none⟩) hab).trans (c 0 _ rfl), (hW.cell (p := ⟨ab, ao + i * 2 + 1, none⟩) hab).trans (c 1 _ rfl)⟩
      have HSY : Hid (Below Y.heap.size Y Y) := Below.refl _ _
      refine wp_region_held_drew (S := fun W => Below Y.heap.size Y W) (by kernel_rfl) (by rw [unhide hY]; exact Below.refl _ _) (fun hHeld => ?_)
      clear hHeld
      rw [unhide hY]
      clear hY
      refine wpAnyH_take (i := 0) (oi := _) (v := .pointer (some ⟨w.heap.size, 3, none⟩)) rfl (by kernel_rfl) (by kernel_rfl) (by kernel_rfl) (fun _ _ _ h => h) (Or.inl ⟨by rfl, (by intro w' hSw; obtain ⟨s1, s2, s3⟩ := unhide HCE w' hSw; go_simp)⟩) (unhide HSY) ?_
      go_simp
      refine wpAnyH_take (i := 1) (oi := _) (v := .slice (some ⟨ab, ao, none⟩) AL ac) rfl (by kernel_rfl) (by kernel_rfl) (by kernel_rfl) (fun _ _ _ h => h) (Or.inl ⟨by rfl, (by intro w' hSw; obtain ⟨s1, s2, s3⟩ := unhide HCE w' hSw; go_simp)⟩) (unhide HSY) ?_
      go_simp
      refine wpAnyH_take (i := 2) (oi := _) (v := .int .i64 (i : Int)) rfl (by kernel_rfl) (by kernel_rfl) (by kernel_rfl) (fun _ _ _ h => h) (Or.inl ⟨by rfl, (by intro w' hSw; obtain ⟨s1, s2, s3⟩ := unhide HCE w' hSw; go_simp)⟩) (unhide HSY) ?_
      go_simp
      refine wpAnyH_take (i := 3) (oi := _) (v := .pointer (some ⟨ab, ao + i * 2, none⟩)) rfl (by kernel_rfl) (by kernel_rfl) (by kernel_rfl) (fun _ _ _ h => h) (Or.inl ⟨by rfl, (by intro w' hSw; obtain ⟨s1, s2, s3⟩ := unhide HCE w' hSw; go_simp)⟩) (unhide HSY) ?_
      go_simp
      refine wpAnyH_take (i := 4) (oi := _) (v := .agg #[.int .i64 o.k, .int .i64 o.n]) rfl (by kernel_rfl) (by kernel_rfl) (by kernel_rfl) (fun _ _ _ h => h) (Or.inl ⟨by rfl, (by intro w' hSw; obtain ⟨s1, s2, s3⟩ := unhide HCE w' hSw; go_simp)⟩) (unhide HSY) ?_
      go_simp
      refine wpAnyH_take (i := 5) (oi := _) (v := .int .i64 r) rfl (by kernel_rfl) (by kernel_rfl) (by kernel_rfl) (fun _ _ _ h => h) (Or.inl ⟨by rfl, (by intro w' hSw; obtain ⟨s1, s2, s3⟩ := unhide HCE w' hSw; go_simp)⟩) (unhide HSY) ?_
      go_simp
      have HC := hide (reg_any Y r)
      unfold opV rgO at HC
      refine wpAnyH_ready (rs := [6]) (by kernel_rfl) (by simp) ?_
      refine AllReadyH.cons (o := _) rfl (fun K hK => ?_) AllReadyH.nil
      go_simp
      refine (unhide HC).mono ?_
      rintro e Y2 ⟨rfl, b2⟩
      have HSZ := hide b2
      have HZ := hide ((unhide HYB).go b2)
      clear b2 HC HSY
      refine hK.out _ _ (unhide HSZ) (fun _ => ?_)
      clear hK K
      go_simp
      refine wpAnyH_take (i := 7) (oi := _) (v := .bool false) rfl (by kernel_rfl) (by kernel_rfl) (by kernel_rfl) (fun _ _ _ h => h) (Or.inl ⟨by rfl, (by intro w' hSw; obtain ⟨s1, s2, s3⟩ := unhide HCE w' hSw; go_simp; first | done | exact hsb)⟩) (unhide HSZ) ?_
      go_simp
      refine wpAnyH_done (by kernel_rfl) ?_ _
      clear HCE HSZ hsb x3 xl
      go_wp2_with fail
      go_roundg (gk - 1)
      case measure => have := unhide hi; omega
      case rel => exact ⟨i + 1, by have := unhide hi; unfold Hid; omega, by go_num, HZ⟩
    · have hiL : i = AL := by have := unhide hi; omega
      have i1 : ¬ (i : Int) < (AL : Int) := by omega
      clear hiL
      have H0 := hC
      clear hC HA
      go_wp2_with fail
      clear x3 xl
      go_loopg [6] EL (fun gg t6 wr => ∃ (k : Nat), Hid (k + gg = EL) ∧ t6 = .int .i64 (k : Int) ∧ Hid (BX w [(w.heap.size, #[.int .i64 x.op, .int .i64 x.code, .int .i64 x.dst, .slice aa AL ac, .int .i64 x.n, .int .i64 x.pc, .int .i64 x.need, .slice ea EL ec], 50)] wr))
      case atStart => exact ⟨0, by unfold Hid; omega, rfl, H0⟩
      case round =>
        clear H0
        obtain ⟨k, hk, rfl, hC⟩ := hrel
        have x7 := (unhide hC).ce 0 rfl 7
        have xl := (unhide hC).lt (i := 0) rfl
        simp at x7 xl
        by_cases hlk : k < EL
        case neg =>
          have hkL : k = EL := by have := unhide hk; omega
          have i1 : ¬ (k : Int) < (EL : Int) := by omega
          clear hkL
          go_wp2_with fail
          go_ret
          exact ⟨rfl, (unhide hC).b⟩
        have hkl : k < x.ex.length := by rw [unhide hEL]; exact hlk
        obtain ⟨s, hs⟩ : ∃ p, x.ex[k]? = some p := ⟨_, List.getElem?_eq_getElem hkl⟩
        obtain ⟨eb, eo, _, q, e1, heb, _, ⟨f1, f2, f3⟩, ec0⟩ := NV.at zSh (show NV enSh 3 ShP D w x.ex (.slice ea EL ec) from unhide HE) hs
        rw [unhide hEL] at e1
        cases e1
        obtain ⟨sa, sc, es, hs1, hs2⟩ := f3.1.shape
        have HEC0 := ec0 2 _ rfl
        rw [es] at HEC0
        obtain ⟨SL, hSL⟩ : ∃ z, Hid (s.sl.length = z) := ⟨_, hide rfl⟩
        rw [unhide hSL] at HEC0 hs1
        have HSA := hide (fun i p (hp : s.sl[i]? = some p) => f3.1.elem zO hp)
        rw [es, unhide hSL] at HSA
        have HEC : Hid (∀ W, Below w.heap.size w W → W.cell? ⟨eb, eo + k * 3 + 2, none⟩ = some (.slice sa SL sc)) := fun W hW => (hW.cell (p := ⟨eb, eo + k * 3 + 2, none⟩) heb).trans HEC0
        have hSN : SL ≤ 1048576 := by have := unhide HM s (List.mem_of_getElem? hs); have := unhide hSL; omega
        have HNS := hide (unhide HN2 s (List.mem_of_getElem? hs))
        have i0 : (0 : Int) ≤ (k : Int) := by omega
        have i1 : (k : Int) < (EL : Int) := by omega
        unfold maxLen at hs2
        clear ec0 HEC0 f1 f2 f3 es hs
        obtain ⟨G0, hG0⟩ : ∃ G0, Hid (gk = G0) := ⟨_, hide rfl⟩
        go_wp2_with fail
        clear x7 xl
        have H0 := hC
        clear hC
        go_loopg [7] SL (fun gg t7 wr => ∃ (j : Nat), Hid (j + gg = SL) ∧ t7 = .int .i64 (j : Int) ∧ Hid (BX w [(w.heap.size, #[.int .i64 x.op, .int .i64 x.code, .int .i64 x.dst, .slice aa AL ac, .int .i64 x.n, .int .i64 x.pc, .int .i64 x.need, .slice (some ⟨eb, eo, none⟩) EL ec], 50)] wr))
        case atStart => exact ⟨0, by unfold Hid; omega, rfl, H0⟩
        case round =>
          clear H0
          obtain ⟨j, hj, rfl, hC⟩ := hrel
          have x7 := (unhide hC).ce 0 rfl 7
          have xl := (unhide hC).lt (i := 0) rfl
          have x8 := unhide HEC wr (unhide hC).b
          have x9 : eb < wr.heap.size := by have := (unhide hC).b.size; omega
          simp at x7 xl
          by_cases hlj : j < SL
          case neg =>
            have hjL : j = SL := by have := unhide hj; omega
            have j1 : ¬ (j : Int) < (SL : Int) := by omega
            clear hjL
            go_wp2_with fail
            go_roundg (G0 - 1)
            case measure => have h1 := unhide hG0; have h2 := unhide hk; omega
            case rel => exact ⟨k + 1, by have h1 := unhide hG0; have h2 := unhide hk; unfold Hid; omega, by go_num, hC⟩
          have hjl : j < s.sl.length := by rw [unhide hSL]; exact hlj
          obtain ⟨o, hp⟩ : ∃ p, s.sl[j]? = some p := ⟨_, List.getElem?_eq_getElem hjl⟩
          obtain ⟨sb, so, _, e1, _, _, hsl, c⟩ := unhide HSA j o hp
          cases e1
          have hsb := ne_reg (unhide HNS o (List.mem_of_getElem? hp))
          have j0 : (0 : Int) ≤ (j : Int) := by omega
          have j1 : (j : Int) < (SL : Int) := by omega
          clear hp
          go_wp2_with fail
          obtain ⟨Y, hY⟩ : ∃ W, Hid (wr.drew = W) := ⟨_, hide rfl⟩
          have HYB : Hid (BX w [(w.heap.size, #[.int .i64 x.op, .int .i64 x.code, .int .i64 x.dst, .slice aa AL ac, .int .i64 x.n, .int .i64 x.pc, .int .i64 x.need, .slice (some ⟨eb, eo, none⟩) EL ec], 50)] Y) := (unhide hC).go (by rw [← unhide hY]; exact ⟨rfl, rfl, rfl, Nat.le_refl _, fun _ _ => rfl⟩)
          have HCE : Hid (∀ W, Below Y.heap.size Y W → W.cell? ⟨w.heap.size, 7, none⟩ = some (.slice (some ⟨eb, eo, none⟩) EL ec) ∧ W.cell? ⟨eb, eo + k * 3 + 2, none⟩ = some (.slice (some ⟨sb, so, none⟩) SL sc) ∧ W.cell? ⟨sb, so + j * 2, none⟩ = some (.int .i64 o.k) ∧ W.cell? ⟨sb, so + j * 2 + 1, none⟩ = some (.int .i64 o.n)) := fun W hW0 => by
            have hW := bl_past (unhide HYB).b hW0
            have z := (unhide HYB).go hW0
            exact ⟨z.ce 0 rfl 7, unhide HEC W hW, (hW.cell (p := ⟨sb, so + j * 2 + 0, none⟩) hsl).trans (c 0 _ rfl), (hW.cell (p := ⟨sb, so + j * 2 + 1, none⟩) hsl).trans (c 1 _ rfl)⟩
          have HSY : Hid (Below Y.heap.size Y Y) := Below.refl _ _
          refine wp_region_held_drew (S := fun W => Below Y.heap.size Y W) (by kernel_rfl) (by rw [unhide hY]; exact Below.refl _ _) (fun hHeld => ?_)
          clear hHeld
          rw [unhide hY]
          clear hY
          refine wpAnyH_take (i := 0) (oi := _) (v := .pointer (some ⟨w.heap.size, 7, none⟩)) rfl (by kernel_rfl) (by kernel_rfl) (by kernel_rfl) (fun _ _ _ h => h) (Or.inl ⟨by rfl, (by intro w' hSw; obtain ⟨s1, s2, s3, s4⟩ := unhide HCE w' hSw; go_simp)⟩) (unhide HSY) ?_
          go_simp
          refine wpAnyH_take (i := 1) (oi := _) (v := .slice (some ⟨eb, eo, none⟩) EL ec) rfl (by kernel_rfl) (by kernel_rfl) (by kernel_rfl) (fun _ _ _ h => h) (Or.inl ⟨by rfl, (by intro w' hSw; obtain ⟨s1, s2, s3, s4⟩ := unhide HCE w' hSw; go_simp)⟩) (unhide HSY) ?_
          go_simp
          refine wpAnyH_take (i := 2) (oi := _) (v := .int .i64 (k : Int)) rfl (by kernel_rfl) (by kernel_rfl) (by kernel_rfl) (fun _ _ _ h => h) (Or.inl ⟨by rfl, (by intro w' hSw; obtain ⟨s1, s2, s3, s4⟩ := unhide HCE w' hSw; go_simp)⟩) (unhide HSY) ?_
          go_simp
          refine wpAnyH_take (i := 3) (oi := _) (v := .pointer (some ⟨eb, eo + k * 3, none⟩)) rfl (by kernel_rfl) (by kernel_rfl) (by kernel_rfl) (fun _ _ _ h => h) (Or.inl ⟨by rfl, (by intro w' hSw; obtain ⟨s1, s2, s3, s4⟩ := unhide HCE w' hSw; go_simp)⟩) (unhide HSY) ?_
          go_simp
          refine wpAnyH_take (i := 4) (oi := _) (v := .pointer (some ⟨eb, eo + k * 3 + 2, none⟩)) rfl (by kernel_rfl) (by kernel_rfl) (by kernel_rfl) (fun _ _ _ h => h) (Or.inl ⟨by rfl, (by intro w' hSw; obtain ⟨s1, s2, s3, s4⟩ := unhide HCE w' hSw; go_simp)⟩) (unhide HSY) ?_
          go_simp
          refine wpAnyH_take (i := 5) (oi := _) (v := .slice (some ⟨sb, so, none⟩) SL sc) rfl (by kernel_rfl) (by kernel_rfl) (by kernel_rfl) (fun _ _ _ h => h) (Or.inl ⟨by rfl, (by intro w' hSw; obtain ⟨s1, s2, s3, s4⟩ := unhide HCE w' hSw; go_simp)⟩) (unhide HSY) ?_
          go_simp
          refine wpAnyH_take (i := 6) (oi := _) (v := .int .i64 (j : Int)) rfl (by kernel_rfl) (by kernel_rfl) (by kernel_rfl) (fun _ _ _ h => h) (Or.inl ⟨by rfl, (by intro w' hSw; obtain ⟨s1, s2, s3, s4⟩ := unhide HCE w' hSw; go_simp)⟩) (unhide HSY) ?_
          go_simp
          refine wpAnyH_take (i := 7) (oi := _) (v := .pointer (some ⟨sb, so + j * 2, none⟩)) rfl (by kernel_rfl) (by kernel_rfl) (by kernel_rfl) (fun _ _ _ h => h) (Or.inl ⟨by rfl, (by intro w' hSw; obtain ⟨s1, s2, s3, s4⟩ := unhide HCE w' hSw; go_simp)⟩) (unhide HSY) ?_
          go_simp
          refine wpAnyH_take (i := 8) (oi := _) (v := .agg #[.int .i64 o.k, .int .i64 o.n]) rfl (by kernel_rfl) (by kernel_rfl) (by kernel_rfl) (fun _ _ _ h => h) (Or.inl ⟨by rfl, (by intro w' hSw; obtain ⟨s1, s2, s3, s4⟩ := unhide HCE w' hSw; go_simp)⟩) (unhide HSY) ?_
          go_simp
          refine wpAnyH_take (i := 9) (oi := _) (v := .int .i64 r) rfl (by kernel_rfl) (by kernel_rfl) (by kernel_rfl) (fun _ _ _ h => h) (Or.inl ⟨by rfl, (by intro w' hSw; obtain ⟨s1, s2, s3, s4⟩ := unhide HCE w' hSw; go_simp)⟩) (unhide HSY) ?_
          go_simp
          have HC := hide (reg_any Y r)
          unfold opV rgO at HC
          refine wpAnyH_ready (rs := [10]) (by kernel_rfl) (by simp) ?_
          refine AllReadyH.cons (o := _) rfl (fun K hK => ?_) AllReadyH.nil
          go_simp
          refine (unhide HC).mono ?_
          rintro e Y2 ⟨rfl, b2⟩
          have HSZ := hide b2
          have HZ := hide ((unhide HYB).go b2)
          clear b2 HC HSY
          refine hK.out _ _ (unhide HSZ) (fun _ => ?_)
          clear hK K
          go_simp
          refine wpAnyH_take (i := 11) (oi := _) (v := .bool false) rfl (by kernel_rfl) (by kernel_rfl) (by kernel_rfl) (fun _ _ _ h => h) (Or.inl ⟨by rfl, (by intro w' hSw; obtain ⟨s1, s2, s3, s4⟩ := unhide HCE w' hSw; go_simp; first | done | exact hsb)⟩) (unhide HSZ) ?_
          go_simp
          refine wpAnyH_done (by kernel_rfl) ?_ _
          clear HCE HSZ hsb x7 xl x8 x9
          go_wp2_with fail
          go_roundg (gk - 1)
          case measure => have := unhide hj; omega
          case rel => exact ⟨j + 1, by have := unhide hj; unfold Hid; omega, by go_num, HZ⟩
end Go.Proofs.Ytpbdpejhjdoleaa
