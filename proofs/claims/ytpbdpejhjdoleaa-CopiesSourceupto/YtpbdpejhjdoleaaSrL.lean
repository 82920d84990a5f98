/-
  CopiesSource's law.
-/
import Derived.Test.YtpbdpejhjdoleaaAsk
namespace Go.Proofs.Ytpbdpejhjdoleaa
open Go.RowKit
set_option linter.unusedVariables false
set_option linter.unusedSimpArgs false
theorem pre1 {A : Type} {e0 : A} {l : List A} {n : Nat} {e : A} (h : [e0][n]? = some e) : (e0 :: l)[n]? = some e := by
  cases n with
  | zero => exact h
  | succ n => simp at h
set_option maxRecDepth 100000 in
set_option maxHeartbeats 25600000 in
theorem sourceLaw {w : World} {D : Nat → Prop} {fn regs : Int} {bl : List Bk} {v : Value} (h : BksV D w bl v) (hO : ∀ b ∈ bl, OkB b) (hN : bl.length ≤ 1048576) :
    Calls Try.prog 6 #[.agg #[.int .i64 fn, .int .i64 regs, v]] w fun e w' => e = .returned (.bool true) ∧ Below w.heap.size w w' := by
  obtain ⟨a, c, rfl, ha1, ha2⟩ := NV.shape h
  obtain ⟨L, hL⟩ : ∃ L, Hid (bl.length = L) := ⟨_, hide rfl⟩
  rw [unhide hL] at h hN ha1 ⊢
  have hlm : (bl.map bkT).length = L := by rw [List.length_map]; exact unhide hL
  have HLM := hide hlm
  have hb0 := hide (box1n w (.cells #[.int .i64 fn, .int .i64 regs, .slice a L c] 24))
  have HO := hide hO
  have HC := hide (run_any (fn := fn) (regs := regs) (BksV.mv.bel h (unhide hb0)) hO (by rw [unhide hL]; exact hN))
  unfold maxLen at ha2
  clear h hO hlm
  go_enter Try.func6, Try.ntmps6
  go_wp2_with fail
  refine (unhide HC).mono ?_
  rintro e w1 hA
  obtain ⟨a1, c1, rfl, q1, q2, b1, k1⟩ := hA.bks
  rw [unhide HLM] at q1 k1 ⊢
  unfold maxLen at q2
  have HK1 := hide k1
  have HB1 := hide (bl_past (unhide hb0) b1)
  have H2 := hide ((BX.nil w1).add #[.int .i64 fn, .int .i64 regs, .slice a1 L c1] 24)
  simp only [List.nil_append] at H2
  clear hA b1 k1 HC hb0
  go_wp2_with fail
  refine (works_any _).mono ?_
  rintro e w3 ⟨rfl, b3⟩
  have H0 := hide ((unhide H2).go b3)
  clear b3 H2
  go_wp2_with fail
  go_loopg [4] L (fun gg t4 wr => ∃ (i : Nat), Hid (i + gg = L) ∧ t4 = .int .i64 (i : Int) ∧ Hid (BX w1 [(w1.heap.size, #[.int .i64 fn, .int .i64 regs, .slice a1 L c1], 24)] wr))
  case atStart => exact ⟨0, by unfold Hid; omega, rfl, H0⟩
  case round =>
    clear H0
    obtain ⟨i, hi, rfl, hC⟩ := hrel
    have x2 := (unhide hC).ce 0 rfl 2
    have xl := (unhide hC).lt (i := 0) rfl
    simp at x2 xl
    by_cases hlt : i < L
    case neg =>
      have hiL : i = L := by have := unhide hi; omega
      have i1 : ¬ (i : Int) < (L : Int) := by omega
      have HF := hide (bl_past (unhide HB1) (unhide hC).b)
      clear hiL
      go_wp2_with fail
      go_ret
      exact ⟨rfl, unhide HF⟩
    obtain ⟨b0, hb⟩ : ∃ p, bl[i]? = some p := ⟨_, List.getElem?_eq_getElem (by rw [unhide hL]; exact hlt)⟩
    have hbm : (bl.map bkT)[i]? = some (bkT b0) := by rw [List.getElem?_map, hb]; rfl
    obtain ⟨ab, ao, _, r, e1, hab, _, ⟨f1, f2, f3⟩, bc⟩ := NV.at zBk (show NV enBk 3 BkP Tr w1 (bl.map bkT) (.slice a1 L c1) from unhide HK1) hbm
    rw [unhide HLM] at e1
    cases e1
    obtain ⟨la, lc, el, hl1, hl2⟩ := NV.shape f2
    have B1 := bc 1 _ rfl
    rw [el] at B1 f2
    have HOB := hide (unhide HO b0 (List.mem_of_getElem? hb))
    have HOT : Hid (OkB (bkT b0)) := (unhide HOB).trn
    obtain ⟨out, hout⟩ : ∃ z, Hid ((trn b0.ins).2 = z) := ⟨_, hide rfl⟩
    have HPU : Hid (∀ (k : Nat) (x : RIn) (o : Op), out[k]? = some x → mvd x = some o → o ≠ rgO x.dst ∧ ∀ (d : Nat) (y : RIn), out[k + 1 + d]? = some y → (∀ (i : Nat) (z : RIn), i < d → out[k + 1 + i]? = some z → z.dst ≠ x.dst ∧ ¬ (z.dst ≠ -1 ∧ o = rgO z.dst)) → ¬ askP y x.dst) := by
      unfold Hid
      intro k x o
      rw [← unhide hout]
      exact source_pure b0.ins
    have HXO : Hid (∀ x ∈ out, OkX x) := by rw [← unhide hout]; exact (unhide HOT).2.2.2
    obtain ⟨IL, hIL⟩ : ∃ z, Hid (out.length = z) := ⟨_, hide rfl⟩
    have HIV : Hid (InsV Tr w1 out (.slice la IL lc)) := by
      have q := f2
      unfold bkT at q
      dsimp only at q
      rw [unhide hout, unhide hIL] at q
      exact q
    have hIN : IL ≤ 1048576 := by
      have q := (unhide HOT).2.1
      unfold bkT at q
      dsimp only at q
      rw [unhide hout, unhide hIL] at q
      exact q
    unfold bkT at B1 hl1
    dsimp only at B1 hl1
    rw [unhide hout, unhide hIL] at B1 hl1
    unfold maxLen at hl2
    have B1w := ((unhide hC).b.cell (p := ⟨ab, ao + i * 3 + 1, none⟩) hab).trans B1
    have habw := Nat.lt_of_lt_of_le hab (unhide hC).b.size
    have i0 : (0 : Int) ≤ (i : Int) := by omega
    have i1 : (i : Int) < (L : Int) := by omega
    clear bc B1 f1 f2 f3 el hb hbm
    obtain ⟨G0, hG0⟩ : ∃ G0, Hid (gk = G0) := ⟨_, hide rfl⟩
    go_wp2_with fail
    clear x2 xl B1w habw
    have H0 := hC
    clear hC
    go_loopg [6] IL (fun gg t6 wr => ∃ (k : Nat), Hid (k + gg = IL) ∧ t6 = .int .i64 (k : Int) ∧ Hid (BX w1 [(w1.heap.size, #[.int .i64 fn, .int .i64 regs, .slice (some ⟨ab, ao, none⟩) L c1], 24)] wr))
    case atStart => exact ⟨0, by unfold Hid; omega, rfl, H0⟩
    case round =>
      clear H0
      obtain ⟨k, hk, rfl, hC⟩ := hrel
      by_cases hlk : k < IL
      case neg =>
        have hkL : k = IL := by have := unhide hk; omega
        have i1 : ¬ (k : Int) < (IL : Int) := by omega
        clear hkL
        go_wp2_with fail
        go_roundg (G0 - 1)
        case measure => have h1 := unhide hG0; have h2 := unhide hi; omega
        case rel => exact ⟨i + 1, by have h1 := unhide hG0; have h2 := unhide hi; unfold Hid; omega, by go_num, hC⟩
      have hkl : k < out.length := by rw [unhide hIL]; exact hlk
      obtain ⟨x, hx⟩ : ∃ p, out[k]? = some p := ⟨_, List.getElem?_eq_getElem hkl⟩
      obtain ⟨lb, lo, _, r, e1, hlb, _, f, xc⟩ := NV.at zIn (show NV enIn 8 InP Tr w1 out (.slice la IL lc) from unhide HIV) hx
      rw [unhide hIL] at e1
      cases e1
      obtain ⟨rop, rcode, rdst, rav, rn, rpc, rneed, rev⟩ := r
      obtain ⟨h1, h2, h3, h4, h5, h6, h7, h8⟩ := f
      simp only at h1 h2 h3 h4 h5 h6 h7 h8
      obtain ⟨aa, ac, ea1, hva1, hva2⟩ := h7.1.shape
      obtain ⟨ea, ec, ee1, hve1, hve2⟩ := NV.shape h8
      subst ea1 ee1 h1 h2 h3 h4 h5 h6
      have HA := hide (fun i p (hp : x.args[i]? = some p) => h7.1.elem zO hp)
      obtain ⟨AL, hAL⟩ : ∃ z, Hid (x.args.length = z) := ⟨_, hide rfl⟩
      obtain ⟨EL, hEL⟩ : ∃ z, Hid (x.ex.length = z) := ⟨_, hide rfl⟩
      rw [unhide hAL] at xc HA hva1
      rw [unhide hEL] at xc
      have x0 := ((unhide hC).b.cell (p := ⟨lb, lo + k * 8 + 0, none⟩) hlb).trans (xc 0 _ rfl)
      have x1 := ((unhide hC).b.cell (p := ⟨lb, lo + k * 8 + 1, none⟩) hlb).trans (xc 1 _ rfl)
      have x2 := ((unhide hC).b.cell (p := ⟨lb, lo + k * 8 + 2, none⟩) hlb).trans (xc 2 _ rfl)
      have x3 := ((unhide hC).b.cell (p := ⟨lb, lo + k * 8 + 3, none⟩) hlb).trans (xc 3 _ rfl)
      have x4 := ((unhide hC).b.cell (p := ⟨lb, lo + k * 8 + 4, none⟩) hlb).trans (xc 4 _ rfl)
      have x5 := ((unhide hC).b.cell (p := ⟨lb, lo + k * 8 + 5, none⟩) hlb).trans (xc 5 _ rfl)
      have x6 := ((unhide hC).b.cell (p := ⟨lb, lo + k * 8 + 6, none⟩) hlb).trans (xc 6 _ rfl)
      have x7 := ((unhide hC).b.cell (p := ⟨lb, lo + k * 8 + 7, none⟩) hlb).trans (xc 7 _ rfl)
      simp only [Nat.add_zero] at x0
      have hlw := Nat.lt_of_lt_of_le hlb (unhide hC).b.size
      have i0 : (0 : Int) ≤ (k : Int) := by omega
      have i1 : (k : Int) < (IL : Int) := by omega
      unfold maxLen at hva2
      obtain ⟨P7, hP⟩ : ∃ z, Hid (wr.heap.size = z) := ⟨_, hide rfl⟩
      have H7 := hide ((unhide hC).add #[.int .i64 x.op, .int .i64 x.code, .int .i64 x.dst, .slice aa AL ac, .int .i64 x.n, .int .i64 x.pc, .int .i64 x.need, .slice ea EL ec] 50)
      have H7a : Hid (BX w1 [(w1.heap.size, #[.int .i64 fn, .int .i64 regs, .slice (some ⟨ab, ao, none⟩) L c1], 24)] (wr.alloc (.cells #[.int .i64 x.op, .int .i64 x.code, .int .i64 x.dst, .slice aa AL ac, .int .i64 x.n, .int .i64 x.pc, .int .i64 x.need, .slice ea EL ec] 50))) := (unhide hC).go (box1n _ _)
      have HX := hide hx
      clear xc h7 h8 hx
      by_cases m1 : x.op = 1
      case neg =>
        have d1 : (x.op != 1) = true := by simp [m1]
        have e1 : (x.op == 1) = false := by simp [m1]
        clear m1
        go_wp2_with fail
        go_roundg (gk - 1)
        case measure => have := unhide hk; omega
        case rel => exact ⟨k + 1, by have := unhide hk; unfold Hid; omega, by go_num, H7a⟩
      have d1 : (x.op != 1) = false := by simp [m1]
      have e1 : (x.op == 1) = true := by simp [m1]
      have M1 := hide m1
      clear m1
      by_cases m2 : AL = 1
      case neg =>
        have d2 : ((AL : Int) != 1) = true := by simp; omega
        have e2 : ((AL : Int) == 1) = false := by simp; omega
        clear m2
        go_wp2_with fail
        go_roundg (gk - 1)
        case measure => have := unhide hk; omega
        case rel => exact ⟨k + 1, by have := unhide hk; unfold Hid; omega, by go_num, H7a⟩
      subst m2
      by_cases m3 : x.dst = -1
      case pos =>
        have d3 : (x.dst == -1) = true := by simp [m3]
        clear m3
        go_wp2_with fail
        go_roundg (gk - 1)
        case measure => have := unhide hk; omega
        case rel => exact ⟨k + 1, by have := unhide hk; unfold Hid; omega, by go_num, H7a⟩
      case neg =>
        have d3 : (x.dst == -1) = false := by simp [m3]
        obtain ⟨o, ho⟩ : ∃ o, x.args = [o] := by
          have hl := unhide hAL
          cases hx : x.args with
          | nil => rw [hx] at hl; simp at hl
          | cons o l =>
            cases l with
            | nil => exact ⟨o, rfl⟩
            | cons _ _ => rw [hx] at hl; simp at hl
        have HMV := hide (mvd_yes (unhide M1) ho m3)
        obtain ⟨hoe, hpu⟩ := unhide HPU k x o (unhide HX) (unhide HMV)
        have HP2 := hide hpu
        have hsb := ne_reg hoe
        obtain ⟨gb, go, _, eg, _, _, hgb, gc⟩ := unhide HA 0 o (by rw [ho]; rfl)
        cases eg
        have g0 := ((unhide hC).b.cell (p := ⟨gb, go + 0 * 2 + 0, none⟩) hgb).trans (gc 0 _ rfl)
        have g1 := ((unhide hC).b.cell (p := ⟨gb, go + 0 * 2 + 1, none⟩) hgb).trans (gc 1 _ rfl)
        simp only [Nat.zero_mul, Nat.add_zero] at g0 g1
        have hgw := Nat.lt_of_lt_of_le hgb (unhide hC).b.size
        have hgw2 : gb < wr.heap.size + 1 := by omega
        have H8 := hide ((unhide H7).add #[.int .i64 o.k, .int .i64 o.n] 52)
        simp only [World.size_alloc, List.cons_append, List.nil_append] at H8
        rw [unhide hP] at H8
        clear gc ho hoe hpu m3 H7
        go_wp2_with fail
        rw [unhide hP]
        obtain ⟨W8, hW8⟩ : ∃ W, Hid ((wr.alloc (.cells #[.int .i64 x.op, .int .i64 x.code, .int .i64 x.dst, .slice (some ⟨gb, go, none⟩) 1 ac, .int .i64 x.n, .int .i64 x.pc, .int .i64 x.need, .slice ea EL ec] 50)).alloc (.cells #[.int .i64 o.k, .int .i64 o.n] 52) = W) := ⟨_, hide rfl⟩
        rw [unhide hW8] at H8 ⊢
        clear hW8 g0 g1 hgw hgw2 x0 x1 x2 x3 x4 x5 x6 x7 hlw hP H7a hC
        obtain ⟨Y, hY⟩ : ∃ W, Hid ((W8).drew = W) := ⟨_, hide rfl⟩
        have HYB : Hid (BX w1 [(w1.heap.size, #[.int .i64 fn, .int .i64 regs, .slice (some ⟨ab, ao, none⟩) L c1], 24), (P7, #[.int .i64 x.op, .int .i64 x.code, .int .i64 x.dst, .slice (some ⟨gb, go, none⟩) 1 ac, .int .i64 x.n, .int .i64 x.pc, .int .i64 x.need, .slice ea EL ec], 50), (P7 + 1, #[.int .i64 o.k, .int .i64 o.n], 52)] Y) := (unhide H8).go (by rw [← unhide hY]; exact ⟨rfl, rfl, rfl, Nat.le_refl _, fun _ _ => rfl⟩)
        have HCE : Hid (∀ W, Below Y.heap.size Y W → W.cell? ⟨P7 + 1, 0, none⟩ = some (.int .i64 o.k) ∧ W.cell? ⟨P7 + 1, 1, none⟩ = some (.int .i64 o.n) ∧ W.cell? ⟨P7, 2, none⟩ = some (.int .i64 x.dst)) := fun W hW0 => by
          have hW := bl_past (unhide HYB).b hW0
          have zz := (unhide HYB).go hW0
          exact ⟨zz.ce 2 rfl 0, zz.ce 2 rfl 1, zz.ce 1 rfl 2⟩
        have HSY : Hid (Below Y.heap.size Y Y) := Below.refl _ _
        refine wp_region_held_drew (S := fun W => Below Y.heap.size Y W) (by kernel_rfl) (by rw [unhide hY]; exact Below.refl _ _) (fun hHeld => ?_)
        clear hHeld
        rw [unhide hY]
        clear hY
        refine wpAnyH_take (i := 0) (oi := _) (v := .agg #[.int .i64 o.k, .int .i64 o.n]) rfl (by kernel_rfl) (by kernel_rfl) (by kernel_rfl) (fun _ _ _ h => h) (Or.inl ⟨by rfl, (by intro w' hSw; obtain ⟨s1, s2, s3⟩ := unhide HCE w' hSw; go_simp)⟩) (unhide HSY) ?_
        go_simp
        refine wpAnyH_take (i := 1) (oi := _) (v := .pointer (some ⟨P7, 2, none⟩)) rfl (by kernel_rfl) (by kernel_rfl) (by kernel_rfl) (fun _ _ _ h => h) (Or.inl ⟨by rfl, (by intro w' hSw; obtain ⟨s1, s2, s3⟩ := unhide HCE w' hSw; go_simp)⟩) (unhide HSY) ?_
        go_simp
        refine wpAnyH_take (i := 2) (oi := _) (v := .int .i64 x.dst) rfl (by kernel_rfl) (by kernel_rfl) (by kernel_rfl) (fun _ _ _ h => h) (Or.inl ⟨by rfl, (by intro w' hSw; obtain ⟨s1, s2, s3⟩ := unhide HCE w' hSw; go_simp)⟩) (unhide HSY) ?_
        go_simp
        have HC := hide (reg_any Y x.dst)
        unfold opV rgO at HC
        refine wpAnyH_ready (rs := [3]) (by kernel_rfl) (by simp) ?_
        refine AllReadyH.cons (o := _) rfl (fun K hK => ?_) AllReadyH.nil
        go_simp
        refine (unhide HC).mono ?_
        rintro e Y2 ⟨rfl, b2⟩
        have HSZ := hide b2
        have HZ := hide ((unhide HYB).go b2)
        clear b2 HC HSY
        refine hK.out _ _ (unhide HSZ) (fun _ => ?_)
        clear hK K
        go_simp
        refine wpAnyH_take (i := 4) (oi := _) (v := .bool false) rfl (by kernel_rfl) (by kernel_rfl) (by kernel_rfl) (fun _ _ _ h => h) (Or.inl ⟨by rfl, (by intro w' hSw; obtain ⟨s1, s2, s3⟩ := unhide HCE w' hSw; go_simp; first | done | exact hsb)⟩) (unhide HSZ) ?_
        go_simp
        refine wpAnyH_done (by kernel_rfl) ?_ _
        clear HCE HSZ hsb
        obtain ⟨G1, hG1⟩ : ∃ G1, Hid (gk = G1) := ⟨_, hide rfl⟩
        have H0 := HZ
        clear HZ HYB H8
        go_wp2_with fail
        go_loopg [9] (IL - (k + 1)) (fun gg t9 wr => ∃ (j d : Nat), Hid (j = k + 1 + d) ∧ Hid (j + gg = IL) ∧ t9 = .int .i64 (j : Int) ∧ Hid (∀ (i : Nat) (z : RIn), i < d → out[k + 1 + i]? = some z → z.dst ≠ x.dst ∧ ¬ (z.dst ≠ -1 ∧ o = rgO z.dst)) ∧ Hid (BX w1 [(w1.heap.size, #[.int .i64 fn, .int .i64 regs, .slice (some ⟨ab, ao, none⟩) L c1], 24), (P7, #[.int .i64 x.op, .int .i64 x.code, .int .i64 x.dst, .slice (some ⟨gb, go, none⟩) 1 ac, .int .i64 x.n, .int .i64 x.pc, .int .i64 x.need, .slice ea EL ec], 50), (P7 + 1, #[.int .i64 o.k, .int .i64 o.n], 52)] wr))
        case atStart => exact ⟨k + 1, 0, rfl, by unfold Hid; omega, by go_num, fun i z hi => by omega, H0⟩
        case round =>
          clear H0
          obtain ⟨j, d, hjd, hj, rfl, hW, hC⟩ := hrel
          by_cases hlj : j < IL
          case neg =>
            have j1 : ¬ (j : Int) < (IL : Int) := by omega
            have HEND : Hid (BX w1 [(w1.heap.size, #[.int .i64 fn, .int .i64 regs, .slice (some ⟨ab, ao, none⟩) L c1], 24)] wr) := ⟨fun n e he => (unhide hC).h n e (pre1 he), (unhide hC).b⟩
            go_wp2_with fail
            go_roundg (G1 - 1)
            case measure => have h1 := unhide hG1; have h2 := unhide hk; omega
            case rel => exact ⟨k + 1, by have h1 := unhide hG1; have h2 := unhide hk; unfold Hid; omega, by go_num, HEND⟩
          have hjl : j < out.length := by rw [unhide hIL]; exact hlj
          obtain ⟨z, hz⟩ : ∃ p, out[j]? = some p := ⟨_, List.getElem?_eq_getElem hjl⟩
          obtain ⟨_, _, _, r, e1, _, _, f, zcell⟩ := NV.at zIn (show NV enIn 8 InP Tr w1 out (.slice (some ⟨lb, lo, none⟩) IL lc) from unhide HIV) hz
          rw [unhide hIL] at e1
          cases e1
          have HAK : Hid (∀ W, Below w1.heap.size w1 W → Calls Try.prog 19 #[inV r, .int .i64 x.dst] W fun e w' => e = .returned (.bool false) ∧ Below W.heap.size W w') := fun W hW2 => asks_no (InP.mv.bel f hW2) (unhide HXO z (List.mem_of_getElem? hz)) (unhide HP2 d z (by rw [← unhide hjd]; exact hz) (unhide hW))
          obtain ⟨rop, rcode, rdst, rav, rn, rpc, rneed, rev⟩ := r
          obtain ⟨h1, h2, h3, h4, h5, h6, h7, h8⟩ := f
          simp only at h1 h2 h3 h4 h5 h6 h7 h8
          obtain ⟨za, zc, ea1, hza1, hza2⟩ := h7.1.shape
          obtain ⟨ya, yc, ee1, hye1, hye2⟩ := NV.shape h8
          subst ea1 ee1 h1 h2 h3 h4 h5 h6
          obtain ⟨ZL, hZL⟩ : ∃ q, Hid (z.args.length = q) := ⟨_, hide rfl⟩
          obtain ⟨YL, hYL⟩ : ∃ q, Hid (z.ex.length = q) := ⟨_, hide rfl⟩
          rw [unhide hZL, unhide hYL] at zcell HAK
          unfold inV at HAK
          dsimp only at HAK
          have j0 : (0 : Int) ≤ (j : Int) := by omega
          have j1 : (j : Int) < (IL : Int) := by omega
          have HZ0 := hide hz
          clear h7 h8 hz hza1 hza2 hye1 hye2
          go_wp2_with fail
          obtain ⟨Y, hY⟩ : ∃ W, Hid (wr.drew = W) := ⟨_, hide rfl⟩
          have HYB : Hid (BX w1 [(w1.heap.size, #[.int .i64 fn, .int .i64 regs, .slice (some ⟨ab, ao, none⟩) L c1], 24), (P7, #[.int .i64 x.op, .int .i64 x.code, .int .i64 x.dst, .slice (some ⟨gb, go, none⟩) 1 ac, .int .i64 x.n, .int .i64 x.pc, .int .i64 x.need, .slice ea EL ec], 50), (P7 + 1, #[.int .i64 o.k, .int .i64 o.n], 52)] Y) := (unhide hC).go (by rw [← unhide hY]; exact ⟨rfl, rfl, rfl, Nat.le_refl _, fun _ _ => rfl⟩)
          have HCE : Hid (∀ W, Below Y.heap.size Y W → W.cell? ⟨P7, 2, none⟩ = some (.int .i64 x.dst) ∧ W.cell? ⟨P7 + 1, 0, none⟩ = some (.int .i64 o.k) ∧ W.cell? ⟨P7 + 1, 1, none⟩ = some (.int .i64 o.n) ∧ W.cell? ⟨lb, lo + j * 8, none⟩ = some (.int .i64 z.op) ∧ W.cell? ⟨lb, lo + j * 8 + 1, none⟩ = some (.int .i64 z.code) ∧ W.cell? ⟨lb, lo + j * 8 + 2, none⟩ = some (.int .i64 z.dst) ∧ W.cell? ⟨lb, lo + j * 8 + 3, none⟩ = some (.slice za ZL zc) ∧ W.cell? ⟨lb, lo + j * 8 + 4, none⟩ = some (.int .i64 z.n) ∧ W.cell? ⟨lb, lo + j * 8 + 5, none⟩ = some (.int .i64 z.pc) ∧ W.cell? ⟨lb, lo + j * 8 + 6, none⟩ = some (.int .i64 z.need) ∧ W.cell? ⟨lb, lo + j * 8 + 7, none⟩ = some (.slice ya YL yc)) := fun W hW0 => by
            have hW := bl_past (unhide HYB).b hW0
            have zz := (unhide HYB).go hW0
            exact ⟨zz.ce 1 rfl 2, zz.ce 2 rfl 0, zz.ce 2 rfl 1, (hW.cell (p := ⟨lb, lo + j * 8 + 0, none⟩) hlb).trans (zcell 0 _ rfl), (hW.cell (p := ⟨lb, lo + j * 8 + 1, none⟩) hlb).trans (zcell 1 _ rfl), (hW.cell (p := ⟨lb, lo + j * 8 + 2, none⟩) hlb).trans (zcell 2 _ rfl), (hW.cell (p := ⟨lb, lo + j * 8 + 3, none⟩) hlb).trans (zcell 3 _ rfl), (hW.cell (p := ⟨lb, lo + j * 8 + 4, none⟩) hlb).trans (zcell 4 _ rfl), (hW.cell (p := ⟨lb, lo + j * 8 + 5, none⟩) hlb).trans (zcell 5 _ rfl), (hW.cell (p := ⟨lb, lo + j * 8 + 6, none⟩) hlb).trans (zcell 6 _ rfl), (hW.cell (p := ⟨lb, lo + j * 8 + 7, none⟩) hlb).trans (zcell 7 _ rfl)⟩
          have HSY : Hid (Below Y.heap.size Y Y) := Below.refl _ _
          refine wp_region_held_drew (S := fun W => Below Y.heap.size Y W) (by kernel_rfl) (by rw [unhide hY]; exact Below.refl _ _) (fun hHeld => ?_)
          clear hHeld
          rw [unhide hY]
          clear hY
          refine wpAnyH_take (i := 0) (oi := _) (v := .slice (some ⟨lb, lo, none⟩) IL lc) rfl (by kernel_rfl) (by kernel_rfl) (by kernel_rfl) (fun _ _ _ h => h) (Or.inl ⟨by rfl, (by intro w' hSw; obtain ⟨s1, s2, s3, z0, z1, z2, z3, z4, z5, z6, z7⟩ := unhide HCE w' hSw; go_simp)⟩) (unhide HSY) ?_
          go_simp
          refine wpAnyH_take (i := 1) (oi := _) (v := .int .i64 (j : Int)) rfl (by kernel_rfl) (by kernel_rfl) (by kernel_rfl) (fun _ _ _ h => h) (Or.inl ⟨by rfl, (by intro w' hSw; obtain ⟨s1, s2, s3, z0, z1, z2, z3, z4, z5, z6, z7⟩ := unhide HCE w' hSw; go_simp)⟩) (unhide HSY) ?_
          go_simp
          refine wpAnyH_take (i := 2) (oi := _) (v := .pointer (some ⟨lb, lo + j * 8, none⟩)) rfl (by kernel_rfl) (by kernel_rfl) (by kernel_rfl) (fun _ _ _ h => h) (Or.inl ⟨by rfl, (by intro w' hSw; obtain ⟨s1, s2, s3, z0, z1, z2, z3, z4, z5, z6, z7⟩ := unhide HCE w' hSw; go_simp)⟩) (unhide HSY) ?_
          go_simp
          refine wpAnyH_take (i := 3) (oi := _) (v := .agg #[.int .i64 z.op, .int .i64 z.code, .int .i64 z.dst, .slice za ZL zc, .int .i64 z.n, .int .i64 z.pc, .int .i64 z.need, .slice ya YL yc]) rfl (by kernel_rfl) (by kernel_rfl) (by kernel_rfl) (fun _ _ _ h => h) (Or.inl ⟨by rfl, (by intro w' hSw; obtain ⟨s1, s2, s3, z0, z1, z2, z3, z4, z5, z6, z7⟩ := unhide HCE w' hSw; go_simp)⟩) (unhide HSY) ?_
          go_simp
          refine wpAnyH_take (i := 4) (oi := _) (v := .pointer (some ⟨P7, 2, none⟩)) rfl (by kernel_rfl) (by kernel_rfl) (by kernel_rfl) (fun _ _ _ h => h) (Or.inl ⟨by rfl, (by intro w' hSw; obtain ⟨s1, s2, s3, z0, z1, z2, z3, z4, z5, z6, z7⟩ := unhide HCE w' hSw; go_simp)⟩) (unhide HSY) ?_
          go_simp
          refine wpAnyH_take (i := 5) (oi := _) (v := .int .i64 x.dst) rfl (by kernel_rfl) (by kernel_rfl) (by kernel_rfl) (fun _ _ _ h => h) (Or.inl ⟨by rfl, (by intro w' hSw; obtain ⟨s1, s2, s3, z0, z1, z2, z3, z4, z5, z6, z7⟩ := unhide HCE w' hSw; go_simp)⟩) (unhide HSY) ?_
          go_simp
          have HC := hide (unhide HAK Y (unhide HYB).b)
          refine wpAnyH_ready (rs := [6]) (by kernel_rfl) (by simp) ?_
          refine AllReadyH.cons (o := _) rfl (fun K hK => ?_) AllReadyH.nil
          go_simp
          refine (unhide HC).mono ?_
          rintro e Y2 ⟨rfl, b2⟩
          have HSZ := hide b2
          have HZ := hide ((unhide HYB).go b2)
          clear b2 HC HSY
          refine hK.out _ _ (unhide HSZ) (fun _ => ?_)
          clear hK K
          go_simp
          refine wpAnyH_done (by kernel_rfl) ?_ _
          clear HCE HSZ HAK
          go_wp2_with fail
          by_cases m4 : z.dst = x.dst
          case pos =>
            have t1 : (z.dst == x.dst) = true := by simp [m4]
            obtain ⟨V, hY⟩ : ∃ W, Hid (Y2.drew = W) := ⟨_, hide rfl⟩
            have HYC : Hid (BX w1 [(w1.heap.size, #[.int .i64 fn, .int .i64 regs, .slice (some ⟨ab, ao, none⟩) L c1], 24), (P7, #[.int .i64 x.op, .int .i64 x.code, .int .i64 x.dst, .slice (some ⟨gb, go, none⟩) 1 ac, .int .i64 x.n, .int .i64 x.pc, .int .i64 x.need, .slice ea EL ec], 50), (P7 + 1, #[.int .i64 o.k, .int .i64 o.n], 52)] V) := (unhide HZ).go (by rw [← unhide hY]; exact ⟨rfl, rfl, rfl, Nat.le_refl _, fun _ _ => rfl⟩)
            have HCF : Hid (∀ W, Below V.heap.size V W → W.cell? ⟨P7, 2, none⟩ = some (.int .i64 x.dst) ∧ W.cell? ⟨P7 + 1, 0, none⟩ = some (.int .i64 o.k) ∧ W.cell? ⟨P7 + 1, 1, none⟩ = some (.int .i64 o.n) ∧ W.cell? ⟨lb, lo + j * 8, none⟩ = some (.int .i64 z.op) ∧ W.cell? ⟨lb, lo + j * 8 + 1, none⟩ = some (.int .i64 z.code) ∧ W.cell? ⟨lb, lo + j * 8 + 2, none⟩ = some (.int .i64 z.dst) ∧ W.cell? ⟨lb, lo + j * 8 + 3, none⟩ = some (.slice za ZL zc) ∧ W.cell? ⟨lb, lo + j * 8 + 4, none⟩ = some (.int .i64 z.n) ∧ W.cell? ⟨lb, lo + j * 8 + 5, none⟩ = some (.int .i64 z.pc) ∧ W.cell? ⟨lb, lo + j * 8 + 6, none⟩ = some (.int .i64 z.need) ∧ W.cell? ⟨lb, lo + j * 8 + 7, none⟩ = some (.slice ya YL yc)) := fun W hW0 => by
              have hW := bl_past (unhide HYC).b hW0
              have zz := (unhide HYC).go hW0
              exact ⟨zz.ce 1 rfl 2, zz.ce 2 rfl 0, zz.ce 2 rfl 1, (hW.cell (p := ⟨lb, lo + j * 8 + 0, none⟩) hlb).trans (zcell 0 _ rfl), (hW.cell (p := ⟨lb, lo + j * 8 + 1, none⟩) hlb).trans (zcell 1 _ rfl), (hW.cell (p := ⟨lb, lo + j * 8 + 2, none⟩) hlb).trans (zcell 2 _ rfl), (hW.cell (p := ⟨lb, lo + j * 8 + 3, none⟩) hlb).trans (zcell 3 _ rfl), (hW.cell (p := ⟨lb, lo + j * 8 + 4, none⟩) hlb).trans (zcell 4 _ rfl), (hW.cell (p := ⟨lb, lo + j * 8 + 5, none⟩) hlb).trans (zcell 5 _ rfl), (hW.cell (p := ⟨lb, lo + j * 8 + 6, none⟩) hlb).trans (zcell 6 _ rfl), (hW.cell (p := ⟨lb, lo + j * 8 + 7, none⟩) hlb).trans (zcell 7 _ rfl)⟩
            have HSW : Hid (Below V.heap.size V V) := Below.refl _ _
            refine wp_region_held_drew (S := fun W => Below V.heap.size V W) (by kernel_rfl) (by rw [unhide hY]; exact Below.refl _ _) (fun hHeld => ?_)
            clear hHeld
            rw [unhide hY]
            clear hY
            refine wpAnyH_take (i := 0) (oi := _) (v := .slice (some ⟨lb, lo, none⟩) IL lc) rfl (by kernel_rfl) (by kernel_rfl) (by kernel_rfl) (fun _ _ _ h => h) (Or.inl ⟨by rfl, (by intro w' hSw; obtain ⟨s1, s2, s3, z0, z1, z2, z3, z4, z5, z6, z7⟩ := unhide HCF w' hSw; go_simp)⟩) (unhide HSW) ?_
            go_simp
            refine wpAnyH_take (i := 1) (oi := _) (v := .int .i64 (j : Int)) rfl (by kernel_rfl) (by kernel_rfl) (by kernel_rfl) (fun _ _ _ h => h) (Or.inl ⟨by rfl, (by intro w' hSw; obtain ⟨s1, s2, s3, z0, z1, z2, z3, z4, z5, z6, z7⟩ := unhide HCF w' hSw; go_simp)⟩) (unhide HSW) ?_
            go_simp
            refine wpAnyH_take (i := 2) (oi := _) (v := .pointer (some ⟨lb, lo + j * 8, none⟩)) rfl (by kernel_rfl) (by kernel_rfl) (by kernel_rfl) (fun _ _ _ h => h) (Or.inl ⟨by rfl, (by intro w' hSw; obtain ⟨s1, s2, s3, z0, z1, z2, z3, z4, z5, z6, z7⟩ := unhide HCF w' hSw; go_simp)⟩) (unhide HSW) ?_
            go_simp
            refine wpAnyH_take (i := 3) (oi := _) (v := .pointer (some ⟨lb, lo + j * 8 + 2, none⟩)) rfl (by kernel_rfl) (by kernel_rfl) (by kernel_rfl) (fun _ _ _ h => h) (Or.inl ⟨by rfl, (by intro w' hSw; obtain ⟨s1, s2, s3, z0, z1, z2, z3, z4, z5, z6, z7⟩ := unhide HCF w' hSw; go_simp)⟩) (unhide HSW) ?_
            go_simp
            refine wpAnyH_take (i := 4) (oi := _) (v := .int .i64 z.dst) rfl (by kernel_rfl) (by kernel_rfl) (by kernel_rfl) (fun _ _ _ h => h) (Or.inl ⟨by rfl, (by intro w' hSw; obtain ⟨s1, s2, s3, z0, z1, z2, z3, z4, z5, z6, z7⟩ := unhide HCF w' hSw; go_simp)⟩) (unhide HSW) ?_
            go_simp
            refine wpAnyH_take (i := 5) (oi := _) (v := .pointer (some ⟨P7, 2, none⟩)) rfl (by kernel_rfl) (by kernel_rfl) (by kernel_rfl) (fun _ _ _ h => h) (Or.inl ⟨by rfl, (by intro w' hSw; obtain ⟨s1, s2, s3, z0, z1, z2, z3, z4, z5, z6, z7⟩ := unhide HCF w' hSw; go_simp)⟩) (unhide HSW) ?_
            go_simp
            refine wpAnyH_take (i := 6) (oi := _) (v := .int .i64 x.dst) rfl (by kernel_rfl) (by kernel_rfl) (by kernel_rfl) (fun _ _ _ h => h) (Or.inl ⟨by rfl, (by intro w' hSw; obtain ⟨s1, s2, s3, z0, z1, z2, z3, z4, z5, z6, z7⟩ := unhide HCF w' hSw; go_simp)⟩) (unhide HSW) ?_
            go_simp
            refine wpAnyH_take (i := 7) (oi := _) (v := .bool true) rfl (by kernel_rfl) (by kernel_rfl) (by kernel_rfl) (fun _ _ _ h => h) (Or.inl ⟨by rfl, (by intro w' hSw; obtain ⟨s1, s2, s3, z0, z1, z2, z3, z4, z5, z6, z7⟩ := unhide HCF w' hSw; go_simp)⟩) (unhide HSW) ?_
            go_simp
            refine wpAnyH_take (i := 8) (oi := _) (v := .bool true) rfl (by kernel_rfl) (by kernel_rfl) (by kernel_rfl) (fun _ _ _ h => h) (Or.inl ⟨by rfl, (by intro w' hSw; obtain ⟨s1, s2, s3, z0, z1, z2, z3, z4, z5, z6, z7⟩ := unhide HCF w' hSw; go_simp)⟩) (unhide HSW) ?_
            go_simp
            refine wpAnyH_take (i := 9) (oi := _) (v := undef) rfl (by kernel_rfl) (by kernel_rfl) (by kernel_rfl) (fun _ _ _ h => h) (Or.inr ⟨by rfl, rfl⟩) (unhide HSW) ?_
            go_simp
            refine wpAnyH_take (i := 10) (oi := _) (v := undef) rfl (by kernel_rfl) (by kernel_rfl) (by kernel_rfl) (fun _ _ _ h => h) (Or.inr ⟨by rfl, rfl⟩) (unhide HSW) ?_
            go_simp
            refine wpAnyH_take (i := 11) (oi := _) (v := undef) rfl (by kernel_rfl) (by kernel_rfl) (by kernel_rfl) (fun _ _ _ h => h) (Or.inr ⟨by rfl, rfl⟩) (unhide HSW) ?_
            go_simp
            refine wpAnyH_take (i := 12) (oi := _) (v := undef) rfl (by kernel_rfl) (by kernel_rfl) (by kernel_rfl) (fun _ _ _ h => h) (Or.inr ⟨by rfl, rfl⟩) (unhide HSW) ?_
            go_simp
            refine wpAnyH_take (i := 13) (oi := _) (v := undef) rfl (by kernel_rfl) (by kernel_rfl) (by kernel_rfl) (fun _ _ _ h => h) (Or.inr ⟨by rfl, rfl⟩) (unhide HSW) ?_
            go_simp
            refine wpAnyH_take (i := 14) (oi := _) (v := undef) rfl (by kernel_rfl) (by kernel_rfl) (by kernel_rfl) (fun _ _ _ h => h) (Or.inr ⟨by rfl, rfl⟩) (unhide HSW) ?_
            go_simp
            refine wpAnyH_take (i := 15) (oi := _) (v := undef) rfl (by kernel_rfl) (by kernel_rfl) (by kernel_rfl) (fun _ _ _ h => h) (Or.inr ⟨by rfl, rfl⟩) (unhide HSW) ?_
            go_simp
            refine wpAnyH_take (i := 16) (oi := _) (v := undef) rfl (by kernel_rfl) (by kernel_rfl) (by kernel_rfl) (fun _ _ _ h => h) (Or.inr ⟨by rfl, rfl⟩) (unhide HSW) ?_
            go_simp
            refine wpAnyH_take (i := 17) (oi := _) (v := undef) rfl (by kernel_rfl) (by kernel_rfl) (by kernel_rfl) (fun _ _ _ h => h) (Or.inr ⟨by rfl, rfl⟩) (unhide HSW) ?_
            go_simp
            refine wpAnyH_take (i := 18) (oi := _) (v := undef) rfl (by kernel_rfl) (by kernel_rfl) (by kernel_rfl) (fun _ _ _ h => h) (Or.inr ⟨by rfl, rfl⟩) (unhide HSW) ?_
            go_simp
            refine wpAnyH_take (i := 19) (oi := _) (v := undef) rfl (by kernel_rfl) (by kernel_rfl) (by kernel_rfl) (fun _ _ _ h => h) (Or.inr ⟨by rfl, rfl⟩) (unhide HSW) ?_
            go_simp
            refine wpAnyH_take (i := 20) (oi := _) (v := undef) rfl (by kernel_rfl) (by kernel_rfl) (by kernel_rfl) (fun _ _ _ h => h) (Or.inr ⟨by rfl, rfl⟩) (unhide HSW) ?_
            go_simp
            refine wpAnyH_take (i := 21) (oi := _) (v := undef) rfl (by kernel_rfl) (by kernel_rfl) (by kernel_rfl) (fun _ _ _ h => h) (Or.inr ⟨by rfl, rfl⟩) (unhide HSW) ?_
            go_simp
            refine wpAnyH_ready (rs := [22]) (by kernel_rfl) (by simp) ?_
            refine AllReadyH.cons (o := _) rfl (fun K hK => ?_) AllReadyH.nil
            go_simp
            refine hK.out _ _ (unhide HSW) (fun _ => ?_)
            clear hK K
            go_simp
            refine wpAnyH_take (i := 23) (oi := _) (v := undef) rfl (by kernel_rfl) (by kernel_rfl) (by kernel_rfl) (fun _ _ _ h => h) (Or.inr ⟨by rfl, rfl⟩) (unhide HSW) ?_
            go_simp
            refine wpAnyH_take (i := 24) (oi := _) (v := undef) rfl (by kernel_rfl) (by kernel_rfl) (by kernel_rfl) (fun _ _ _ h => h) (Or.inr ⟨by rfl, rfl⟩) (unhide HSW) ?_
            go_simp
            refine wpAnyH_take (i := 25) (oi := _) (v := .bool true) rfl (by kernel_rfl) (by kernel_rfl) (by kernel_rfl) (fun _ _ _ h => h) (Or.inl ⟨by rfl, (by intro w' hSw; obtain ⟨s1, s2, s3, z0, z1, z2, z3, z4, z5, z6, z7⟩ := unhide HCF w' hSw; go_simp)⟩) (unhide HSW) ?_
            go_simp
            refine wpAnyH_done (by kernel_rfl) ?_ _
            have HEND : Hid (BX w1 [(w1.heap.size, #[.int .i64 fn, .int .i64 regs, .slice (some ⟨ab, ao, none⟩) L c1], 24)] V) := ⟨fun n e he => (unhide HYC).h n e (pre1 he), (unhide HYC).b⟩
            clear HCF HSW
            go_wp2_with fail
            go_roundg (G1 - 1)
            case measure => have h1 := unhide hG1; have h2 := unhide hk; omega
            case rel => exact ⟨k + 1, by have h1 := unhide hG1; have h2 := unhide hk; unfold Hid; omega, by go_num, HEND⟩
          have HWR0 := hide m4
          have t1 : (z.dst == x.dst) = false := by simp [m4]
          by_cases m5 : z.dst = -1
          case pos =>
            have t2 : (z.dst != -1) = false := by simp [m5]
            have t3 : (z.dst == -1) = true := by simp [m5]
            have HWR : Hid (∀ (i : Nat) (y : RIn), i < d + 1 → out[k + 1 + i]? = some y → y.dst ≠ x.dst ∧ ¬ (y.dst ≠ -1 ∧ o = rgO y.dst)) := fun i y hi hy => by
              by_cases q : i < d
              · exact unhide hW i y q hy
              · obtain rfl : i = d := by omega
                rw [← unhide hjd, unhide HZ0] at hy
                cases hy
                exact ⟨unhide HWR0, fun e => e.1 m5⟩
            clear m4 m5
            obtain ⟨V, hY⟩ : ∃ W, Hid (Y2.drew = W) := ⟨_, hide rfl⟩
            have HYC : Hid (BX w1 [(w1.heap.size, #[.int .i64 fn, .int .i64 regs, .slice (some ⟨ab, ao, none⟩) L c1], 24), (P7, #[.int .i64 x.op, .int .i64 x.code, .int .i64 x.dst, .slice (some ⟨gb, go, none⟩) 1 ac, .int .i64 x.n, .int .i64 x.pc, .int .i64 x.need, .slice ea EL ec], 50), (P7 + 1, #[.int .i64 o.k, .int .i64 o.n], 52)] V) := (unhide HZ).go (by rw [← unhide hY]; exact ⟨rfl, rfl, rfl, Nat.le_refl _, fun _ _ => rfl⟩)
            have HCF : Hid (∀ W, Below V.heap.size V W → W.cell? ⟨P7, 2, none⟩ = some (.int .i64 x.dst) ∧ W.cell? ⟨P7 + 1, 0, none⟩ = some (.int .i64 o.k) ∧ W.cell? ⟨P7 + 1, 1, none⟩ = some (.int .i64 o.n) ∧ W.cell? ⟨lb, lo + j * 8, none⟩ = some (.int .i64 z.op) ∧ W.cell? ⟨lb, lo + j * 8 + 1, none⟩ = some (.int .i64 z.code) ∧ W.cell? ⟨lb, lo + j * 8 + 2, none⟩ = some (.int .i64 z.dst) ∧ W.cell? ⟨lb, lo + j * 8 + 3, none⟩ = some (.slice za ZL zc) ∧ W.cell? ⟨lb, lo + j * 8 + 4, none⟩ = some (.int .i64 z.n) ∧ W.cell? ⟨lb, lo + j * 8 + 5, none⟩ = some (.int .i64 z.pc) ∧ W.cell? ⟨lb, lo + j * 8 + 6, none⟩ = some (.int .i64 z.need) ∧ W.cell? ⟨lb, lo + j * 8 + 7, none⟩ = some (.slice ya YL yc)) := fun W hW0 => by
              have hW := bl_past (unhide HYC).b hW0
              have zz := (unhide HYC).go hW0
              exact ⟨zz.ce 1 rfl 2, zz.ce 2 rfl 0, zz.ce 2 rfl 1, (hW.cell (p := ⟨lb, lo + j * 8 + 0, none⟩) hlb).trans (zcell 0 _ rfl), (hW.cell (p := ⟨lb, lo + j * 8 + 1, none⟩) hlb).trans (zcell 1 _ rfl), (hW.cell (p := ⟨lb, lo + j * 8 + 2, none⟩) hlb).trans (zcell 2 _ rfl), (hW.cell (p := ⟨lb, lo + j * 8 + 3, none⟩) hlb).trans (zcell 3 _ rfl), (hW.cell (p := ⟨lb, lo + j * 8 + 4, none⟩) hlb).trans (zcell 4 _ rfl), (hW.cell (p := ⟨lb, lo + j * 8 + 5, none⟩) hlb).trans (zcell 5 _ rfl), (hW.cell (p := ⟨lb, lo + j * 8 + 6, none⟩) hlb).trans (zcell 6 _ rfl), (hW.cell (p := ⟨lb, lo + j * 8 + 7, none⟩) hlb).trans (zcell 7 _ rfl)⟩
            have HSW : Hid (Below V.heap.size V V) := Below.refl _ _
            refine wp_region_held_drew (S := fun W => Below V.heap.size V W) (by kernel_rfl) (by rw [unhide hY]; exact Below.refl _ _) (fun hHeld => ?_)
            clear hHeld
            rw [unhide hY]
            clear hY
            refine wpAnyH_take (i := 0) (oi := _) (v := .slice (some ⟨lb, lo, none⟩) IL lc) rfl (by kernel_rfl) (by kernel_rfl) (by kernel_rfl) (fun _ _ _ h => h) (Or.inl ⟨by rfl, (by intro w' hSw; obtain ⟨s1, s2, s3, z0, z1, z2, z3, z4, z5, z6, z7⟩ := unhide HCF w' hSw; go_simp)⟩) (unhide HSW) ?_
            go_simp
            refine wpAnyH_take (i := 1) (oi := _) (v := .int .i64 (j : Int)) rfl (by kernel_rfl) (by kernel_rfl) (by kernel_rfl) (fun _ _ _ h => h) (Or.inl ⟨by rfl, (by intro w' hSw; obtain ⟨s1, s2, s3, z0, z1, z2, z3, z4, z5, z6, z7⟩ := unhide HCF w' hSw; go_simp)⟩) (unhide HSW) ?_
            go_simp
            refine wpAnyH_take (i := 2) (oi := _) (v := .pointer (some ⟨lb, lo + j * 8, none⟩)) rfl (by kernel_rfl) (by kernel_rfl) (by kernel_rfl) (fun _ _ _ h => h) (Or.inl ⟨by rfl, (by intro w' hSw; obtain ⟨s1, s2, s3, z0, z1, z2, z3, z4, z5, z6, z7⟩ := unhide HCF w' hSw; go_simp)⟩) (unhide HSW) ?_
            go_simp
            refine wpAnyH_take (i := 3) (oi := _) (v := .pointer (some ⟨lb, lo + j * 8 + 2, none⟩)) rfl (by kernel_rfl) (by kernel_rfl) (by kernel_rfl) (fun _ _ _ h => h) (Or.inl ⟨by rfl, (by intro w' hSw; obtain ⟨s1, s2, s3, z0, z1, z2, z3, z4, z5, z6, z7⟩ := unhide HCF w' hSw; go_simp)⟩) (unhide HSW) ?_
            go_simp
            refine wpAnyH_take (i := 4) (oi := _) (v := .int .i64 z.dst) rfl (by kernel_rfl) (by kernel_rfl) (by kernel_rfl) (fun _ _ _ h => h) (Or.inl ⟨by rfl, (by intro w' hSw; obtain ⟨s1, s2, s3, z0, z1, z2, z3, z4, z5, z6, z7⟩ := unhide HCF w' hSw; go_simp)⟩) (unhide HSW) ?_
            go_simp
            refine wpAnyH_take (i := 5) (oi := _) (v := .pointer (some ⟨P7, 2, none⟩)) rfl (by kernel_rfl) (by kernel_rfl) (by kernel_rfl) (fun _ _ _ h => h) (Or.inl ⟨by rfl, (by intro w' hSw; obtain ⟨s1, s2, s3, z0, z1, z2, z3, z4, z5, z6, z7⟩ := unhide HCF w' hSw; go_simp)⟩) (unhide HSW) ?_
            go_simp
            refine wpAnyH_take (i := 6) (oi := _) (v := .int .i64 x.dst) rfl (by kernel_rfl) (by kernel_rfl) (by kernel_rfl) (fun _ _ _ h => h) (Or.inl ⟨by rfl, (by intro w' hSw; obtain ⟨s1, s2, s3, z0, z1, z2, z3, z4, z5, z6, z7⟩ := unhide HCF w' hSw; go_simp)⟩) (unhide HSW) ?_
            go_simp
            refine wpAnyH_take (i := 7) (oi := _) (v := .bool false) rfl (by kernel_rfl) (by kernel_rfl) (by kernel_rfl) (fun _ _ _ h => h) (Or.inl ⟨by rfl, (by intro w' hSw; obtain ⟨s1, s2, s3, z0, z1, z2, z3, z4, z5, z6, z7⟩ := unhide HCF w' hSw; go_simp)⟩) (unhide HSW) ?_
            go_simp
            refine wpAnyH_take (i := 8) (oi := _) (v := .bool false) rfl (by kernel_rfl) (by kernel_rfl) (by kernel_rfl) (fun _ _ _ h => h) (Or.inl ⟨by rfl, (by intro w' hSw; obtain ⟨s1, s2, s3, z0, z1, z2, z3, z4, z5, z6, z7⟩ := unhide HCF w' hSw; go_simp)⟩) (unhide HSW) ?_
            go_simp
            refine wpAnyH_take (i := 9) (oi := _) (v := .slice (some ⟨lb, lo, none⟩) IL lc) rfl (by kernel_rfl) (by kernel_rfl) (by kernel_rfl) (fun _ _ _ h => h) (Or.inl ⟨by rfl, (by intro w' hSw; obtain ⟨s1, s2, s3, z0, z1, z2, z3, z4, z5, z6, z7⟩ := unhide HCF w' hSw; go_simp)⟩) (unhide HSW) ?_
            go_simp
            refine wpAnyH_take (i := 10) (oi := _) (v := .int .i64 (j : Int)) rfl (by kernel_rfl) (by kernel_rfl) (by kernel_rfl) (fun _ _ _ h => h) (Or.inl ⟨by rfl, (by intro w' hSw; obtain ⟨s1, s2, s3, z0, z1, z2, z3, z4, z5, z6, z7⟩ := unhide HCF w' hSw; go_simp)⟩) (unhide HSW) ?_
            go_simp
            refine wpAnyH_take (i := 11) (oi := _) (v := .pointer (some ⟨lb, lo + j * 8, none⟩)) rfl (by kernel_rfl) (by kernel_rfl) (by kernel_rfl) (fun _ _ _ h => h) (Or.inl ⟨by rfl, (by intro w' hSw; obtain ⟨s1, s2, s3, z0, z1, z2, z3, z4, z5, z6, z7⟩ := unhide HCF w' hSw; go_simp)⟩) (unhide HSW) ?_
            go_simp
            refine wpAnyH_take (i := 12) (oi := _) (v := .pointer (some ⟨lb, lo + j * 8 + 2, none⟩)) rfl (by kernel_rfl) (by kernel_rfl) (by kernel_rfl) (fun _ _ _ h => h) (Or.inl ⟨by rfl, (by intro w' hSw; obtain ⟨s1, s2, s3, z0, z1, z2, z3, z4, z5, z6, z7⟩ := unhide HCF w' hSw; go_simp)⟩) (unhide HSW) ?_
            go_simp
            refine wpAnyH_take (i := 13) (oi := _) (v := .int .i64 z.dst) rfl (by kernel_rfl) (by kernel_rfl) (by kernel_rfl) (fun _ _ _ h => h) (Or.inl ⟨by rfl, (by intro w' hSw; obtain ⟨s1, s2, s3, z0, z1, z2, z3, z4, z5, z6, z7⟩ := unhide HCF w' hSw; go_simp)⟩) (unhide HSW) ?_
            go_simp
            refine wpAnyH_take (i := 14) (oi := _) (v := .bool false) rfl (by kernel_rfl) (by kernel_rfl) (by kernel_rfl) (fun _ _ _ h => h) (Or.inl ⟨by rfl, (by intro w' hSw; obtain ⟨s1, s2, s3, z0, z1, z2, z3, z4, z5, z6, z7⟩ := unhide HCF w' hSw; go_simp)⟩) (unhide HSW) ?_
            go_simp
            refine wpAnyH_take (i := 15) (oi := _) (v := .bool false) rfl (by kernel_rfl) (by kernel_rfl) (by kernel_rfl) (fun _ _ _ h => h) (Or.inl ⟨by rfl, (by intro w' hSw; obtain ⟨s1, s2, s3, z0, z1, z2, z3, z4, z5, z6, z7⟩ := unhide HCF w' hSw; go_simp)⟩) (unhide HSW) ?_
            go_simp
            refine wpAnyH_take (i := 16) (oi := _) (v := undef) rfl (by kernel_rfl) (by kernel_rfl) (by kernel_rfl) (fun _ _ _ h => h) (Or.inr ⟨by rfl, rfl⟩) (unhide HSW) ?_
            go_simp
            refine wpAnyH_take (i := 17) (oi := _) (v := undef) rfl (by kernel_rfl) (by kernel_rfl) (by kernel_rfl) (fun _ _ _ h => h) (Or.inr ⟨by rfl, rfl⟩) (unhide HSW) ?_
            go_simp
            refine wpAnyH_take (i := 18) (oi := _) (v := undef) rfl (by kernel_rfl) (by kernel_rfl) (by kernel_rfl) (fun _ _ _ h => h) (Or.inr ⟨by rfl, rfl⟩) (unhide HSW) ?_
            go_simp
            refine wpAnyH_take (i := 19) (oi := _) (v := undef) rfl (by kernel_rfl) (by kernel_rfl) (by kernel_rfl) (fun _ _ _ h => h) (Or.inr ⟨by rfl, rfl⟩) (unhide HSW) ?_
            go_simp
            refine wpAnyH_take (i := 20) (oi := _) (v := undef) rfl (by kernel_rfl) (by kernel_rfl) (by kernel_rfl) (fun _ _ _ h => h) (Or.inr ⟨by rfl, rfl⟩) (unhide HSW) ?_
            go_simp
            refine wpAnyH_take (i := 21) (oi := _) (v := undef) rfl (by kernel_rfl) (by kernel_rfl) (by kernel_rfl) (fun _ _ _ h => h) (Or.inr ⟨by rfl, rfl⟩) (unhide HSW) ?_
            go_simp
            refine wpAnyH_ready (rs := [22]) (by kernel_rfl) (by simp) ?_
            refine AllReadyH.cons (o := _) rfl (fun K hK => ?_) AllReadyH.nil
            go_simp
            refine hK.out _ _ (unhide HSW) (fun _ => ?_)
            clear hK K
            go_simp
            refine wpAnyH_take (i := 23) (oi := _) (v := undef) rfl (by kernel_rfl) (by kernel_rfl) (by kernel_rfl) (fun _ _ _ h => h) (Or.inr ⟨by rfl, rfl⟩) (unhide HSW) ?_
            go_simp
            refine wpAnyH_take (i := 24) (oi := _) (v := .bool false) rfl (by kernel_rfl) (by kernel_rfl) (by kernel_rfl) (fun _ _ _ h => h) (Or.inl ⟨by rfl, (by intro w' hSw; obtain ⟨s1, s2, s3, z0, z1, z2, z3, z4, z5, z6, z7⟩ := unhide HCF w' hSw; go_simp)⟩) (unhide HSW) ?_
            go_simp
            refine wpAnyH_take (i := 25) (oi := _) (v := .bool false) rfl (by kernel_rfl) (by kernel_rfl) (by kernel_rfl) (fun _ _ _ h => h) (Or.inl ⟨by rfl, (by intro w' hSw; obtain ⟨s1, s2, s3, z0, z1, z2, z3, z4, z5, z6, z7⟩ := unhide HCF w' hSw; go_simp)⟩) (unhide HSW) ?_
            go_simp
            refine wpAnyH_done (by kernel_rfl) ?_ _
            have HZ9 : Hid (BX w1 [(w1.heap.size, #[.int .i64 fn, .int .i64 regs, .slice (some ⟨ab, ao, none⟩) L c1], 24), (P7, #[.int .i64 x.op, .int .i64 x.code, .int .i64 x.dst, .slice (some ⟨gb, go, none⟩) 1 ac, .int .i64 x.n, .int .i64 x.pc, .int .i64 x.need, .slice ea EL ec], 50), (P7 + 1, #[.int .i64 o.k, .int .i64 o.n], 52)] V) := HYC
            clear HCF HSW
            go_wp2_with fail
            go_roundg (gk - 1)
            case measure => have := unhide hj; omega
            case rel => exact ⟨j + 1, d + 1, by have := unhide hjd; unfold Hid; omega, by have := unhide hj; unfold Hid; omega, by go_num, HWR, HZ9⟩
          have t2 : (z.dst != -1) = true := by simp [m5]
          have t3 : (z.dst == -1) = false := by simp [m5]
          by_cases m6 : o = rgO z.dst
          case pos =>
            have hoz : o.k = 0 ∧ o.n = z.dst := by rw [m6]; exact ⟨rfl, rfl⟩
            have hok : o.k = 0 := hoz.1
            have hon : o.n = z.dst := hoz.2
            clear m4 m5 m6
            obtain ⟨V, hY⟩ : ∃ W, Hid (Y2.drew = W) := ⟨_, hide rfl⟩
            have HYC : Hid (BX w1 [(w1.heap.size, #[.int .i64 fn, .int .i64 regs, .slice (some ⟨ab, ao, none⟩) L c1], 24), (P7, #[.int .i64 x.op, .int .i64 x.code, .int .i64 x.dst, .slice (some ⟨gb, go, none⟩) 1 ac, .int .i64 x.n, .int .i64 x.pc, .int .i64 x.need, .slice ea EL ec], 50), (P7 + 1, #[.int .i64 o.k, .int .i64 o.n], 52)] V) := (unhide HZ).go (by rw [← unhide hY]; exact ⟨rfl, rfl, rfl, Nat.le_refl _, fun _ _ => rfl⟩)
            have HCF : Hid (∀ W, Below V.heap.size V W → W.cell? ⟨P7, 2, none⟩ = some (.int .i64 x.dst) ∧ W.cell? ⟨P7 + 1, 0, none⟩ = some (.int .i64 o.k) ∧ W.cell? ⟨P7 + 1, 1, none⟩ = some (.int .i64 o.n) ∧ W.cell? ⟨lb, lo + j * 8, none⟩ = some (.int .i64 z.op) ∧ W.cell? ⟨lb, lo + j * 8 + 1, none⟩ = some (.int .i64 z.code) ∧ W.cell? ⟨lb, lo + j * 8 + 2, none⟩ = some (.int .i64 z.dst) ∧ W.cell? ⟨lb, lo + j * 8 + 3, none⟩ = some (.slice za ZL zc) ∧ W.cell? ⟨lb, lo + j * 8 + 4, none⟩ = some (.int .i64 z.n) ∧ W.cell? ⟨lb, lo + j * 8 + 5, none⟩ = some (.int .i64 z.pc) ∧ W.cell? ⟨lb, lo + j * 8 + 6, none⟩ = some (.int .i64 z.need) ∧ W.cell? ⟨lb, lo + j * 8 + 7, none⟩ = some (.slice ya YL yc)) := fun W hW0 => by
              have hW := bl_past (unhide HYC).b hW0
              have zz := (unhide HYC).go hW0
              exact ⟨zz.ce 1 rfl 2, zz.ce 2 rfl 0, zz.ce 2 rfl 1, (hW.cell (p := ⟨lb, lo + j * 8 + 0, none⟩) hlb).trans (zcell 0 _ rfl), (hW.cell (p := ⟨lb, lo + j * 8 + 1, none⟩) hlb).trans (zcell 1 _ rfl), (hW.cell (p := ⟨lb, lo + j * 8 + 2, none⟩) hlb).trans (zcell 2 _ rfl), (hW.cell (p := ⟨lb, lo + j * 8 + 3, none⟩) hlb).trans (zcell 3 _ rfl), (hW.cell (p := ⟨lb, lo + j * 8 + 4, none⟩) hlb).trans (zcell 4 _ rfl), (hW.cell (p := ⟨lb, lo + j * 8 + 5, none⟩) hlb).trans (zcell 5 _ rfl), (hW.cell (p := ⟨lb, lo + j * 8 + 6, none⟩) hlb).trans (zcell 6 _ rfl), (hW.cell (p := ⟨lb, lo + j * 8 + 7, none⟩) hlb).trans (zcell 7 _ rfl)⟩
            have HSW : Hid (Below V.heap.size V V) := Below.refl _ _
            refine wp_region_held_drew (S := fun W => Below V.heap.size V W) (by kernel_rfl) (by rw [unhide hY]; exact Below.refl _ _) (fun hHeld => ?_)
            clear hHeld
            rw [unhide hY]
            clear hY
            refine wpAnyH_take (i := 0) (oi := _) (v := .slice (some ⟨lb, lo, none⟩) IL lc) rfl (by kernel_rfl) (by kernel_rfl) (by kernel_rfl) (fun _ _ _ h => h) (Or.inl ⟨by rfl, (by intro w' hSw; obtain ⟨s1, s2, s3, z0, z1, z2, z3, z4, z5, z6, z7⟩ := unhide HCF w' hSw; go_simp)⟩) (unhide HSW) ?_
            go_simp
            refine wpAnyH_take (i := 1) (oi := _) (v := .int .i64 (j : Int)) rfl (by kernel_rfl) (by kernel_rfl) (by kernel_rfl) (fun _ _ _ h => h) (Or.inl ⟨by rfl, (by intro w' hSw; obtain ⟨s1, s2, s3, z0, z1, z2, z3, z4, z5, z6, z7⟩ := unhide HCF w' hSw; go_simp)⟩) (unhide HSW) ?_
            go_simp
            refine wpAnyH_take (i := 2) (oi := _) (v := .pointer (some ⟨lb, lo + j * 8, none⟩)) rfl (by kernel_rfl) (by kernel_rfl) (by kernel_rfl) (fun _ _ _ h => h) (Or.inl ⟨by rfl, (by intro w' hSw; obtain ⟨s1, s2, s3, z0, z1, z2, z3, z4, z5, z6, z7⟩ := unhide HCF w' hSw; go_simp)⟩) (unhide HSW) ?_
            go_simp
            refine wpAnyH_take (i := 3) (oi := _) (v := .pointer (some ⟨lb, lo + j * 8 + 2, none⟩)) rfl (by kernel_rfl) (by kernel_rfl) (by kernel_rfl) (fun _ _ _ h => h) (Or.inl ⟨by rfl, (by intro w' hSw; obtain ⟨s1, s2, s3, z0, z1, z2, z3, z4, z5, z6, z7⟩ := unhide HCF w' hSw; go_simp)⟩) (unhide HSW) ?_
            go_simp
            refine wpAnyH_take (i := 4) (oi := _) (v := .int .i64 z.dst) rfl (by kernel_rfl) (by kernel_rfl) (by kernel_rfl) (fun _ _ _ h => h) (Or.inl ⟨by rfl, (by intro w' hSw; obtain ⟨s1, s2, s3, z0, z1, z2, z3, z4, z5, z6, z7⟩ := unhide HCF w' hSw; go_simp)⟩) (unhide HSW) ?_
            go_simp
            refine wpAnyH_take (i := 5) (oi := _) (v := .pointer (some ⟨P7, 2, none⟩)) rfl (by kernel_rfl) (by kernel_rfl) (by kernel_rfl) (fun _ _ _ h => h) (Or.inl ⟨by rfl, (by intro w' hSw; obtain ⟨s1, s2, s3, z0, z1, z2, z3, z4, z5, z6, z7⟩ := unhide HCF w' hSw; go_simp)⟩) (unhide HSW) ?_
            go_simp
            refine wpAnyH_take (i := 6) (oi := _) (v := .int .i64 x.dst) rfl (by kernel_rfl) (by kernel_rfl) (by kernel_rfl) (fun _ _ _ h => h) (Or.inl ⟨by rfl, (by intro w' hSw; obtain ⟨s1, s2, s3, z0, z1, z2, z3, z4, z5, z6, z7⟩ := unhide HCF w' hSw; go_simp)⟩) (unhide HSW) ?_
            go_simp
            refine wpAnyH_take (i := 7) (oi := _) (v := .bool false) rfl (by kernel_rfl) (by kernel_rfl) (by kernel_rfl) (fun _ _ _ h => h) (Or.inl ⟨by rfl, (by intro w' hSw; obtain ⟨s1, s2, s3, z0, z1, z2, z3, z4, z5, z6, z7⟩ := unhide HCF w' hSw; go_simp)⟩) (unhide HSW) ?_
            go_simp
            refine wpAnyH_take (i := 8) (oi := _) (v := .bool false) rfl (by kernel_rfl) (by kernel_rfl) (by kernel_rfl) (fun _ _ _ h => h) (Or.inl ⟨by rfl, (by intro w' hSw; obtain ⟨s1, s2, s3, z0, z1, z2, z3, z4, z5, z6, z7⟩ := unhide HCF w' hSw; go_simp)⟩) (unhide HSW) ?_
            go_simp
            refine wpAnyH_take (i := 9) (oi := _) (v := .slice (some ⟨lb, lo, none⟩) IL lc) rfl (by kernel_rfl) (by kernel_rfl) (by kernel_rfl) (fun _ _ _ h => h) (Or.inl ⟨by rfl, (by intro w' hSw; obtain ⟨s1, s2, s3, z0, z1, z2, z3, z4, z5, z6, z7⟩ := unhide HCF w' hSw; go_simp)⟩) (unhide HSW) ?_
            go_simp
            refine wpAnyH_take (i := 10) (oi := _) (v := .int .i64 (j : Int)) rfl (by kernel_rfl) (by kernel_rfl) (by kernel_rfl) (fun _ _ _ h => h) (Or.inl ⟨by rfl, (by intro w' hSw; obtain ⟨s1, s2, s3, z0, z1, z2, z3, z4, z5, z6, z7⟩ := unhide HCF w' hSw; go_simp)⟩) (unhide HSW) ?_
            go_simp
            refine wpAnyH_take (i := 11) (oi := _) (v := .pointer (some ⟨lb, lo + j * 8, none⟩)) rfl (by kernel_rfl) (by kernel_rfl) (by kernel_rfl) (fun _ _ _ h => h) (Or.inl ⟨by rfl, (by intro w' hSw; obtain ⟨s1, s2, s3, z0, z1, z2, z3, z4, z5, z6, z7⟩ := unhide HCF w' hSw; go_simp)⟩) (unhide HSW) ?_
            go_simp
            refine wpAnyH_take (i := 12) (oi := _) (v := .pointer (some ⟨lb, lo + j * 8 + 2, none⟩)) rfl (by kernel_rfl) (by kernel_rfl) (by kernel_rfl) (fun _ _ _ h => h) (Or.inl ⟨by rfl, (by intro w' hSw; obtain ⟨s1, s2, s3, z0, z1, z2, z3, z4, z5, z6, z7⟩ := unhide HCF w' hSw; go_simp)⟩) (unhide HSW) ?_
            go_simp
            refine wpAnyH_take (i := 13) (oi := _) (v := .int .i64 z.dst) rfl (by kernel_rfl) (by kernel_rfl) (by kernel_rfl) (fun _ _ _ h => h) (Or.inl ⟨by rfl, (by intro w' hSw; obtain ⟨s1, s2, s3, z0, z1, z2, z3, z4, z5, z6, z7⟩ := unhide HCF w' hSw; go_simp)⟩) (unhide HSW) ?_
            go_simp
            refine wpAnyH_take (i := 14) (oi := _) (v := .bool true) rfl (by kernel_rfl) (by kernel_rfl) (by kernel_rfl) (fun _ _ _ h => h) (Or.inl ⟨by rfl, (by intro w' hSw; obtain ⟨s1, s2, s3, z0, z1, z2, z3, z4, z5, z6, z7⟩ := unhide HCF w' hSw; go_simp)⟩) (unhide HSW) ?_
            go_simp
            refine wpAnyH_take (i := 15) (oi := _) (v := .bool true) rfl (by kernel_rfl) (by kernel_rfl) (by kernel_rfl) (fun _ _ _ h => h) (Or.inl ⟨by rfl, (by intro w' hSw; obtain ⟨s1, s2, s3, z0, z1, z2, z3, z4, z5, z6, z7⟩ := unhide HCF w' hSw; go_simp)⟩) (unhide HSW) ?_
            go_simp
            refine wpAnyH_take (i := 16) (oi := _) (v := .agg #[.int .i64 o.k, .int .i64 o.n]) rfl (by kernel_rfl) (by kernel_rfl) (by kernel_rfl) (fun _ _ _ h => h) (Or.inl ⟨by rfl, (by intro w' hSw; obtain ⟨s1, s2, s3, z0, z1, z2, z3, z4, z5, z6, z7⟩ := unhide HCF w' hSw; go_simp)⟩) (unhide HSW) ?_
            go_simp
            refine wpAnyH_take (i := 17) (oi := _) (v := .slice (some ⟨lb, lo, none⟩) IL lc) rfl (by kernel_rfl) (by kernel_rfl) (by kernel_rfl) (fun _ _ _ h => h) (Or.inl ⟨by rfl, (by intro w' hSw; obtain ⟨s1, s2, s3, z0, z1, z2, z3, z4, z5, z6, z7⟩ := unhide HCF w' hSw; go_simp)⟩) (unhide HSW) ?_
            go_simp
            refine wpAnyH_take (i := 18) (oi := _) (v := .int .i64 (j : Int)) rfl (by kernel_rfl) (by kernel_rfl) (by kernel_rfl) (fun _ _ _ h => h) (Or.inl ⟨by rfl, (by intro w' hSw; obtain ⟨s1, s2, s3, z0, z1, z2, z3, z4, z5, z6, z7⟩ := unhide HCF w' hSw; go_simp)⟩) (unhide HSW) ?_
            go_simp
            refine wpAnyH_take (i := 19) (oi := _) (v := .pointer (some ⟨lb, lo + j * 8, none⟩)) rfl (by kernel_rfl) (by kernel_rfl) (by kernel_rfl) (fun _ _ _ h => h) (Or.inl ⟨by rfl, (by intro w' hSw; obtain ⟨s1, s2, s3, z0, z1, z2, z3, z4, z5, z6, z7⟩ := unhide HCF w' hSw; go_simp)⟩) (unhide HSW) ?_
            go_simp
            refine wpAnyH_take (i := 20) (oi := _) (v := .pointer (some ⟨lb, lo + j * 8 + 2, none⟩)) rfl (by kernel_rfl) (by kernel_rfl) (by kernel_rfl) (fun _ _ _ h => h) (Or.inl ⟨by rfl, (by intro w' hSw; obtain ⟨s1, s2, s3, z0, z1, z2, z3, z4, z5, z6, z7⟩ := unhide HCF w' hSw; go_simp)⟩) (unhide HSW) ?_
            go_simp
            refine wpAnyH_take (i := 21) (oi := _) (v := .int .i64 z.dst) rfl (by kernel_rfl) (by kernel_rfl) (by kernel_rfl) (fun _ _ _ h => h) (Or.inl ⟨by rfl, (by intro w' hSw; obtain ⟨s1, s2, s3, z0, z1, z2, z3, z4, z5, z6, z7⟩ := unhide HCF w' hSw; go_simp)⟩) (unhide HSW) ?_
            go_simp
            have HC := hide (reg_any V z.dst)
            unfold opV rgO at HC
            refine wpAnyH_ready (rs := [22]) (by kernel_rfl) (by simp) ?_
            refine AllReadyH.cons (o := _) rfl (fun K hK => ?_) AllReadyH.nil
            go_simp
            refine (unhide HC).mono ?_
            rintro e V2 ⟨rfl, b2⟩
            have HSV := hide b2
            have HZV := hide ((unhide HYC).go b2)
            clear b2 HC HSW
            refine hK.out _ _ (unhide HSV) (fun _ => ?_)
            clear hK K
            go_simp
            refine wpAnyH_take (i := 23) (oi := _) (v := .bool true) rfl (by kernel_rfl) (by kernel_rfl) (by kernel_rfl) (fun _ _ _ h => h) (Or.inl ⟨by rfl, (by intro w' hSw; obtain ⟨s1, s2, s3, z0, z1, z2, z3, z4, z5, z6, z7⟩ := unhide HCF w' hSw; go_simp; first | done | exact hoz)⟩) (unhide HSV) ?_
            go_simp
            refine wpAnyH_take (i := 24) (oi := _) (v := .bool true) rfl (by kernel_rfl) (by kernel_rfl) (by kernel_rfl) (fun _ _ _ h => h) (Or.inl ⟨by rfl, (by intro w' hSw; obtain ⟨s1, s2, s3, z0, z1, z2, z3, z4, z5, z6, z7⟩ := unhide HCF w' hSw; go_simp)⟩) (unhide HSV) ?_
            go_simp
            refine wpAnyH_take (i := 25) (oi := _) (v := .bool true) rfl (by kernel_rfl) (by kernel_rfl) (by kernel_rfl) (fun _ _ _ h => h) (Or.inl ⟨by rfl, (by intro w' hSw; obtain ⟨s1, s2, s3, z0, z1, z2, z3, z4, z5, z6, z7⟩ := unhide HCF w' hSw; go_simp)⟩) (unhide HSV) ?_
            go_simp
            refine wpAnyH_done (by kernel_rfl) ?_ _
            have HEND : Hid (BX w1 [(w1.heap.size, #[.int .i64 fn, .int .i64 regs, .slice (some ⟨ab, ao, none⟩) L c1], 24)] V2) := ⟨fun n e he => (unhide HZV).h n e (pre1 he), (unhide HZV).b⟩
            clear HCF HSV
            go_wp2_with fail
            go_roundg (G1 - 1)
            case measure => have h1 := unhide hG1; have h2 := unhide hk; omega
            case rel => exact ⟨k + 1, by have h1 := unhide hG1; have h2 := unhide hk; unfold Hid; omega, by go_num, HEND⟩
          have hoz := ne_reg m6
          have HWR : Hid (∀ (i : Nat) (y : RIn), i < d + 1 → out[k + 1 + i]? = some y → y.dst ≠ x.dst ∧ ¬ (y.dst ≠ -1 ∧ o = rgO y.dst)) := fun i y hi hy => by
            by_cases q : i < d
            · exact unhide hW i y q hy
            · obtain rfl : i = d := by omega
              rw [← unhide hjd, unhide HZ0] at hy
              cases hy
              exact ⟨unhide HWR0, fun e => m6 e.2⟩
          clear m4 m5 m6
          obtain ⟨V, hY⟩ : ∃ W, Hid (Y2.drew = W) := ⟨_, hide rfl⟩
          have HYC : Hid (BX w1 [(w1.heap.size, #[.int .i64 fn, .int .i64 regs, .slice (some ⟨ab, ao, none⟩) L c1], 24), (P7, #[.int .i64 x.op, .int .i64 x.code, .int .i64 x.dst, .slice (some ⟨gb, go, none⟩) 1 ac, .int .i64 x.n, .int .i64 x.pc, .int .i64 x.need, .slice ea EL ec], 50), (P7 + 1, #[.int .i64 o.k, .int .i64 o.n], 52)] V) := (unhide HZ).go (by rw [← unhide hY]; exact ⟨rfl, rfl, rfl, Nat.le_refl _, fun _ _ => rfl⟩)
          have HCF : Hid (∀ W, Below V.heap.size V W → W.cell? ⟨P7, 2, none⟩ = some (.int .i64 x.dst) ∧ W.cell? ⟨P7 + 1, 0, none⟩ = some (.int .i64 o.k) ∧ W.cell? ⟨P7 + 1, 1, none⟩ = some (.int .i64 o.n) ∧ W.cell? ⟨lb, lo + j * 8, none⟩ = some (.int .i64 z.op) ∧ W.cell? ⟨lb, lo + j * 8 + 1, none⟩ = some (.int .i64 z.code) ∧ W.cell? ⟨lb, lo + j * 8 + 2, none⟩ = some (.int .i64 z.dst) ∧ W.cell? ⟨lb, lo + j * 8 + 3, none⟩ = some (.slice za ZL zc) ∧ W.cell? ⟨lb, lo + j * 8 + 4, none⟩ = some (.int .i64 z.n) ∧ W.cell? ⟨lb, lo + j * 8 + 5, none⟩ = some (.int .i64 z.pc) ∧ W.cell? ⟨lb, lo + j * 8 + 6, none⟩ = some (.int .i64 z.need) ∧ W.cell? ⟨lb, lo + j * 8 + 7, none⟩ = some (.slice ya YL yc)) := fun W hW0 => by
            have hW := bl_past (unhide HYC).b hW0
            have zz := (unhide HYC).go hW0
            exact ⟨zz.ce 1 rfl 2, zz.ce 2 rfl 0, zz.ce 2 rfl 1, (hW.cell (p := ⟨lb, lo + j * 8 + 0, none⟩) hlb).trans (zcell 0 _ rfl), (hW.cell (p := ⟨lb, lo + j * 8 + 1, none⟩) hlb).trans (zcell 1 _ rfl), (hW.cell (p := ⟨lb, lo + j * 8 + 2, none⟩) hlb).trans (zcell 2 _ rfl), (hW.cell (p := ⟨lb, lo + j * 8 + 3, none⟩) hlb).trans (zcell 3 _ rfl), (hW.cell (p := ⟨lb, lo + j * 8 + 4, none⟩) hlb).trans (zcell 4 _ rfl), (hW.cell (p := ⟨lb, lo + j * 8 + 5, none⟩) hlb).trans (zcell 5 _ rfl), (hW.cell (p := ⟨lb, lo + j * 8 + 6, none⟩) hlb).trans (zcell 6 _ rfl), (hW.cell (p := ⟨lb, lo + j * 8 + 7, none⟩) hlb).trans (zcell 7 _ rfl)⟩
          have HSW : Hid (Below V.heap.size V V) := Below.refl _ _
          refine wp_region_held_drew (S := fun W => Below V.heap.size V W) (by kernel_rfl) (by rw [unhide hY]; exact Below.refl _ _) (fun hHeld => ?_)
          clear hHeld
          rw [unhide hY]
          clear hY
          refine wpAnyH_take (i := 0) (oi := _) (v := .slice (some ⟨lb, lo, none⟩) IL lc) rfl (by kernel_rfl) (by kernel_rfl) (by kernel_rfl) (fun _ _ _ h => h) (Or.inl ⟨by rfl, (by intro w' hSw; obtain ⟨s1, s2, s3, z0, z1, z2, z3, z4, z5, z6, z7⟩ := unhide HCF w' hSw; go_simp)⟩) (unhide HSW) ?_
          go_simp
          refine wpAnyH_take (i := 1) (oi := _) (v := .int .i64 (j : Int)) rfl (by kernel_rfl) (by kernel_rfl) (by kernel_rfl) (fun _ _ _ h => h) (Or.inl ⟨by rfl, (by intro w' hSw; obtain ⟨s1, s2, s3, z0, z1, z2, z3, z4, z5, z6, z7⟩ := unhide HCF w' hSw; go_simp)⟩) (unhide HSW) ?_
          go_simp
          refine wpAnyH_take (i := 2) (oi := _) (v := .pointer (some ⟨lb, lo + j * 8, none⟩)) rfl (by kernel_rfl) (by kernel_rfl) (by kernel_rfl) (fun _ _ _ h => h) (Or.inl ⟨by rfl, (by intro w' hSw; obtain ⟨s1, s2, s3, z0, z1, z2, z3, z4, z5, z6, z7⟩ := unhide HCF w' hSw; go_simp)⟩) (unhide HSW) ?_
          go_simp
          refine wpAnyH_take (i := 3) (oi := _) (v := .pointer (some ⟨lb, lo + j * 8 + 2, none⟩)) rfl (by kernel_rfl) (by kernel_rfl) (by kernel_rfl) (fun _ _ _ h => h) (Or.inl ⟨by rfl, (by intro w' hSw; obtain ⟨s1, s2, s3, z0, z1, z2, z3, z4, z5, z6, z7⟩ := unhide HCF w' hSw; go_simp)⟩) (unhide HSW) ?_
          go_simp
          refine wpAnyH_take (i := 4) (oi := _) (v := .int .i64 z.dst) rfl (by kernel_rfl) (by kernel_rfl) (by kernel_rfl) (fun _ _ _ h => h) (Or.inl ⟨by rfl, (by intro w' hSw; obtain ⟨s1, s2, s3, z0, z1, z2, z3, z4, z5, z6, z7⟩ := unhide HCF w' hSw; go_simp)⟩) (unhide HSW) ?_
          go_simp
          refine wpAnyH_take (i := 5) (oi := _) (v := .pointer (some ⟨P7, 2, none⟩)) rfl (by kernel_rfl) (by kernel_rfl) (by kernel_rfl) (fun _ _ _ h => h) (Or.inl ⟨by rfl, (by intro w' hSw; obtain ⟨s1, s2, s3, z0, z1, z2, z3, z4, z5, z6, z7⟩ := unhide HCF w' hSw; go_simp)⟩) (unhide HSW) ?_
          go_simp
          refine wpAnyH_take (i := 6) (oi := _) (v := .int .i64 x.dst) rfl (by kernel_rfl) (by kernel_rfl) (by kernel_rfl) (fun _ _ _ h => h) (Or.inl ⟨by rfl, (by intro w' hSw; obtain ⟨s1, s2, s3, z0, z1, z2, z3, z4, z5, z6, z7⟩ := unhide HCF w' hSw; go_simp)⟩) (unhide HSW) ?_
          go_simp
          refine wpAnyH_take (i := 7) (oi := _) (v := .bool false) rfl (by kernel_rfl) (by kernel_rfl) (by kernel_rfl) (fun _ _ _ h => h) (Or.inl ⟨by rfl, (by intro w' hSw; obtain ⟨s1, s2, s3, z0, z1, z2, z3, z4, z5, z6, z7⟩ := unhide HCF w' hSw; go_simp)⟩) (unhide HSW) ?_
          go_simp
          refine wpAnyH_take (i := 8) (oi := _) (v := .bool false) rfl (by kernel_rfl) (by kernel_rfl) (by kernel_rfl) (fun _ _ _ h => h) (Or.inl ⟨by rfl, (by intro w' hSw; obtain ⟨s1, s2, s3, z0, z1, z2, z3, z4, z5, z6, z7⟩ := unhide HCF w' hSw; go_simp)⟩) (unhide HSW) ?_
          go_simp
          refine wpAnyH_take (i := 9) (oi := _) (v := .slice (some ⟨lb, lo, none⟩) IL lc) rfl (by kernel_rfl) (by kernel_rfl) (by kernel_rfl) (fun _ _ _ h => h) (Or.inl ⟨by rfl, (by intro w' hSw; obtain ⟨s1, s2, s3, z0, z1, z2, z3, z4, z5, z6, z7⟩ := unhide HCF w' hSw; go_simp)⟩) (unhide HSW) ?_
          go_simp
          refine wpAnyH_take (i := 10) (oi := _) (v := .int .i64 (j : Int)) rfl (by kernel_rfl) (by kernel_rfl) (by kernel_rfl) (fun _ _ _ h => h) (Or.inl ⟨by rfl, (by intro w' hSw; obtain ⟨s1, s2, s3, z0, z1, z2, z3, z4, z5, z6, z7⟩ := unhide HCF w' hSw; go_simp)⟩) (unhide HSW) ?_
          go_simp
          refine wpAnyH_take (i := 11) (oi := _) (v := .pointer (some ⟨lb, lo + j * 8, none⟩)) rfl (by kernel_rfl) (by kernel_rfl) (by kernel_rfl) (fun _ _ _ h => h) (Or.inl ⟨by rfl, (by intro w' hSw; obtain ⟨s1, s2, s3, z0, z1, z2, z3, z4, z5, z6, z7⟩ := unhide HCF w' hSw; go_simp)⟩) (unhide HSW) ?_
          go_simp
          refine wpAnyH_take (i := 12) (oi := _) (v := .pointer (some ⟨lb, lo + j * 8 + 2, none⟩)) rfl (by kernel_rfl) (by kernel_rfl) (by kernel_rfl) (fun _ _ _ h => h) (Or.inl ⟨by rfl, (by intro w' hSw; obtain ⟨s1, s2, s3, z0, z1, z2, z3, z4, z5, z6, z7⟩ := unhide HCF w' hSw; go_simp)⟩) (unhide HSW) ?_
          go_simp
          refine wpAnyH_take (i := 13) (oi := _) (v := .int .i64 z.dst) rfl (by kernel_rfl) (by kernel_rfl) (by kernel_rfl) (fun _ _ _ h => h) (Or.inl ⟨by rfl, (by intro w' hSw; obtain ⟨s1, s2, s3, z0, z1, z2, z3, z4, z5, z6, z7⟩ := unhide HCF w' hSw; go_simp)⟩) (unhide HSW) ?_
          go_simp
          refine wpAnyH_take (i := 14) (oi := _) (v := .bool true) rfl (by kernel_rfl) (by kernel_rfl) (by kernel_rfl) (fun _ _ _ h => h) (Or.inl ⟨by rfl, (by intro w' hSw; obtain ⟨s1, s2, s3, z0, z1, z2, z3, z4, z5, z6, z7⟩ := unhide HCF w' hSw; go_simp)⟩) (unhide HSW) ?_
          go_simp
          refine wpAnyH_take (i := 15) (oi := _) (v := .bool true) rfl (by kernel_rfl) (by kernel_rfl) (by kernel_rfl) (fun _ _ _ h => h) (Or.inl ⟨by rfl, (by intro w' hSw; obtain ⟨s1, s2, s3, z0, z1, z2, z3, z4, z5, z6, z7⟩ := unhide HCF w' hSw; go_simp)⟩) (unhide HSW) ?_
          go_simp
          refine wpAnyH_take (i := 16) (oi := _) (v := .agg #[.int .i64 o.k, .int .i64 o.n]) rfl (by kernel_rfl) (by kernel_rfl) (by kernel_rfl) (fun _ _ _ h => h) (Or.inl ⟨by rfl, (by intro w' hSw; obtain ⟨s1, s2, s3, z0, z1, z2, z3, z4, z5, z6, z7⟩ := unhide HCF w' hSw; go_simp)⟩) (unhide HSW) ?_
          go_simp
          refine wpAnyH_take (i := 17) (oi := _) (v := .slice (some ⟨lb, lo, none⟩) IL lc) rfl (by kernel_rfl) (by kernel_rfl) (by kernel_rfl) (fun _ _ _ h => h) (Or.inl ⟨by rfl, (by intro w' hSw; obtain ⟨s1, s2, s3, z0, z1, z2, z3, z4, z5, z6, z7⟩ := unhide HCF w' hSw; go_simp)⟩) (unhide HSW) ?_
          go_simp
          refine wpAnyH_take (i := 18) (oi := _) (v := .int .i64 (j : Int)) rfl (by kernel_rfl) (by kernel_rfl) (by kernel_rfl) (fun _ _ _ h => h) (Or.inl ⟨by rfl, (by intro w' hSw; obtain ⟨s1, s2, s3, z0, z1, z2, z3, z4, z5, z6, z7⟩ := unhide HCF w' hSw; go_simp)⟩) (unhide HSW) ?_
          go_simp
          refine wpAnyH_take (i := 19) (oi := _) (v := .pointer (some ⟨lb, lo + j * 8, none⟩)) rfl (by kernel_rfl) (by kernel_rfl) (by kernel_rfl) (fun _ _ _ h => h) (Or.inl ⟨by rfl, (by intro w' hSw; obtain ⟨s1, s2, s3, z0, z1, z2, z3, z4, z5, z6, z7⟩ := unhide HCF w' hSw; go_simp)⟩) (unhide HSW) ?_
          go_simp
          refine wpAnyH_take (i := 20) (oi := _) (v := .pointer (some ⟨lb, lo + j * 8 + 2, none⟩)) rfl (by kernel_rfl) (by kernel_rfl) (by kernel_rfl) (fun _ _ _ h => h) (Or.inl ⟨by rfl, (by intro w' hSw; obtain ⟨s1, s2, s3, z0, z1, z2, z3, z4, z5, z6, z7⟩ := unhide HCF w' hSw; go_simp)⟩) (unhide HSW) ?_
          go_simp
          refine wpAnyH_take (i := 21) (oi := _) (v := .int .i64 z.dst) rfl (by kernel_rfl) (by kernel_rfl) (by kernel_rfl) (fun _ _ _ h => h) (Or.inl ⟨by rfl, (by intro w' hSw; obtain ⟨s1, s2, s3, z0, z1, z2, z3, z4, z5, z6, z7⟩ := unhide HCF w' hSw; go_simp)⟩) (unhide HSW) ?_
          go_simp
          have HC := hide (reg_any V z.dst)
          unfold opV rgO at HC
          refine wpAnyH_ready (rs := [22]) (by kernel_rfl) (by simp) ?_
          refine AllReadyH.cons (o := _) rfl (fun K hK => ?_) AllReadyH.nil
          go_simp
          refine (unhide HC).mono ?_
          rintro e V2 ⟨rfl, b2⟩
          have HSV := hide b2
          have HZV := hide ((unhide HYC).go b2)
          clear b2 HC HSW
          refine hK.out _ _ (unhide HSV) (fun _ => ?_)
          clear hK K
          go_simp
          refine wpAnyH_take (i := 23) (oi := _) (v := .bool false) rfl (by kernel_rfl) (by kernel_rfl) (by kernel_rfl) (fun _ _ _ h => h) (Or.inl ⟨by rfl, (by intro w' hSw; obtain ⟨s1, s2, s3, z0, z1, z2, z3, z4, z5, z6, z7⟩ := unhide HCF w' hSw; go_simp; first | done | exact hoz)⟩) (unhide HSV) ?_
          go_simp
          refine wpAnyH_take (i := 24) (oi := _) (v := .bool false) rfl (by kernel_rfl) (by kernel_rfl) (by kernel_rfl) (fun _ _ _ h => h) (Or.inl ⟨by rfl, (by intro w' hSw; obtain ⟨s1, s2, s3, z0, z1, z2, z3, z4, z5, z6, z7⟩ := unhide HCF w' hSw; go_simp)⟩) (unhide HSV) ?_
          go_simp
          refine wpAnyH_take (i := 25) (oi := _) (v := .bool false) rfl (by kernel_rfl) (by kernel_rfl) (by kernel_rfl) (fun _ _ _ h => h) (Or.inl ⟨by rfl, (by intro w' hSw; obtain ⟨s1, s2, s3, z0, z1, z2, z3, z4, z5, z6, z7⟩ := unhide HCF w' hSw; go_simp)⟩) (unhide HSV) ?_
          go_simp
          refine wpAnyH_done (by kernel_rfl) ?_ _
          have HZ9 : Hid (BX w1 [(w1.heap.size, #[.int .i64 fn, .int .i64 regs, .slice (some ⟨ab, ao, none⟩) L c1], 24), (P7, #[.int .i64 x.op, .int .i64 x.code, .int .i64 x.dst, .slice (some ⟨gb, go, none⟩) 1 ac, .int .i64 x.n, .int .i64 x.pc, .int .i64 x.need, .slice ea EL ec], 50), (P7 + 1, #[.int .i64 o.k, .int .i64 o.n], 52)] V2) := HZV
          clear HCF HSV
          go_wp2_with fail
          go_roundg (gk - 1)
          case measure => have := unhide hj; omega
          case rel => exact ⟨j + 1, d + 1, by have := unhide hjd; unfold Hid; omega, by have := unhide hj; unfold Hid; omega, by go_num, HWR, HZ9⟩
end Go.Proofs.Ytpbdpejhjdoleaa
