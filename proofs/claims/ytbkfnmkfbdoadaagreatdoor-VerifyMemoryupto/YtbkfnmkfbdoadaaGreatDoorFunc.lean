/-
  The document's fault of one function.
-/
import Derived.Test.YtbkfnmkfbdoadaaGreatDoorHead
namespace Go.Proofs.YtbkfnmkfbdoadaaGreatDoor
open Go.RowKit
set_option linter.unusedVariables false
set_option linter.unusedSimpArgs false
noncomputable section
open Classical
theorem heldIn {W a : World} (h : Below W.heap.size W a) {p : Addr} {v : Value} (hc : W.cell? p = some v) : a.cell? p = some v := (h.cell (World.block_lt_of_cell? _ _ hc)).trans hc
theorem nm_sz_ne {s : ByteArray} {t m : Bool} {f : Fc} {q1 q2 : Int} (h : orE (nmF s t) (szF f m) = some (q1, q2)) : q2 ≠ 0 := by
  unfold nmF szF at h
  by_cases h1 : spB s = false
  · rw [if_pos h1] at h; simp only [orE, Option.some.injEq, Prod.mk.injEq] at h; omega
  · rw [if_neg h1] at h
    by_cases h2 : s.size > 32
    · rw [if_pos h2] at h; simp only [orE, Option.some.injEq, Prod.mk.injEq] at h; omega
    · rw [if_neg h2] at h
      by_cases h3 : t = true
      · rw [if_pos h3] at h; simp only [orE, Option.some.injEq, Prod.mk.injEq] at h; omega
      · rw [if_neg h3] at h
        simp only [orE] at h
        split at h
        · simp only [Option.some.injEq, Prod.mk.injEq] at h; omega
        · split at h
          · simp only [Option.some.injEq, Prod.mk.injEq] at h; omega
          · split at h
            · simp only [Option.some.injEq, Prod.mk.injEq] at h; omega
            · split at h
              · simp only [Option.some.injEq, Prod.mk.injEq] at h; omega
              · cases h
set_option maxRecDepth 100000 in
set_option maxHeartbeats 12800000 in
theorem rfunction_any {w : World} {pv : Value} {p : Pg} {k : Nat} {f : Fc} (hp : PgV w pv p) (hk : p.funcs[k]? = some f) (hs : f.name.size ≤ 9223372036854775807) (hN : f.code.length ≤ 9000000000000) (hI : ∀ q ∈ f.code, I64 q.2) :
    Calls Tryz.prog 32 #[pv, .int .i64 (k : Int)] w fun e w' => e = .returned (prV (fnF p f (decide (k = 0)) (decide (∃ g ∈ p.funcs.take k, g.name = f.name)))) ∧ Below w.heap.size w w' := by
  have HPV := hide hp
  have HII := hide hI
  obtain ⟨cv, fv, rfl, hc, hf⟩ := hp
  obtain ⟨_, ca, ccap, rfl, _, _, _⟩ := hc
  obtain ⟨fa, fcap, rfl, hNc, hNm, hat⟩ := hf.at
  obtain ⟨b, off, x, rfl, hb, hx, cs⟩ := hat k f hk
  have hkl := (List.getElem?_eq_some_iff.1 hk).1
  obtain ⟨a1, c1, a2, c2, rfl⟩ := hx.parts
  have HFN := hide hx
  have HCE := hide (fun i q (hq : f.code[i]? = some q) => hx.2.2.2.1.elem zI hq)
  have HHE := hide (fun i q (hq : f.hs[i]? = some q) => hx.2.2.2.2.elem zH hq)
  simp only at HCE HHE
  obtain ⟨NC, hNC⟩ : ∃ n, p.consts.length = n := ⟨_, rfl⟩
  obtain ⟨NF, hNF⟩ : ∃ n, p.funcs.length = n := ⟨_, rfl⟩
  obtain ⟨CL, hCL⟩ : ∃ n, Hid (f.code.length = n) := ⟨_, rfl⟩
  obtain ⟨HL, hHL⟩ : ∃ n, Hid (f.hs.length = n) := ⟨_, rfl⟩
  rw [hNF] at hkl
  rw [hNC, hNF] at HPV ⊢
  have hb1 : Below w.heap.size w (w.alloc (.cells #[.slice ca NC ccap, .slice (some ⟨b, off, none⟩) NF fcap] 25)) := (Below.refl _ _).alloc (Nat.le_refl _) _
  have HH := hide (head_any ((unhide HPV).below hb1 (Nat.le_refl _)) hk hs)
  rw [unhide hCL] at hN HCE HFN cs
  rw [unhide hHL] at HHE HFN cs
  obtain ⟨o1, ho1⟩ : ∃ o, orE (nmF f.name (decide (∃ g ∈ p.funcs.take k, g.name = f.name))) (szF f (decide (k = 0))) = o := ⟨_, rfl⟩
  rw [ho1] at HH
  obtain ⟨r, hr⟩ : ∃ r, Hid (fnF p f (decide (k = 0)) (decide (∃ g ∈ p.funcs.take k, g.name = f.name)) = r) := ⟨_, rfl⟩
  rw [unhide hr]
  have hfo : Hid (fnF p f (decide (k = 0)) (decide (∃ g ∈ p.funcs.take k, g.name = f.name)) = orE o1 (orE (cdF p f) (hsF f))) := by
    unfold Hid fnF
    rw [← ho1]
    cases nmF f.name (decide (∃ g ∈ p.funcs.take k, g.name = f.name)) <;> rfl
  have hHx : Hid (HL ≤ 9223372036854775807) := by
    obtain ⟨_, _, _, e, h1, h2, _⟩ := (unhide HFN).2.2.2.2
    cases e
    exact Nat.le_trans h1 h2
  have CS := hide cs
  have HO1 := hide ho1
  clear ho1 cs hat hx hf hb1 hI hNC hNF
  go_enter Tryz.func32, Tryz.ntmps32
  go_wp2_with fail
  refine (unhide HH).mono ?_
  rintro e w1 ⟨rfl, hbh⟩
  obtain ⟨hbx, hBw, hwl⟩ := boxN (hbh.mono (by simp) : Below (w.heap.size + 1) (w.alloc (.cells #[.slice ca NC ccap, .slice (some ⟨b, off, none⟩) NF fcap] 25)) w1)
  have p0 := hbx 0 _ rfl
  have p1 := hbx 1 _ rfl
  have hB1 := hide hBw
  clear hbh hbx
  cases o1 with
  | some q =>
    obtain ⟨q1, q2⟩ := q
    obtain rfl := (unhide hr).symm.trans (unhide hfo)
    simp only [prV]
    have hq2 : (q2 != 0) = true := by rw [bne_iff_ne]; exact nm_sz_ne (unhide HO1)
    go_wp2_with fail
    go_ret2
    exact ⟨rfl, unhide hB1⟩
  | none =>
    simp only [prV]
    have hr2 := (unhide hfo).symm.trans (unhide hr)
    simp only [orE] at hr2
    have hkc : Hid (w1.cell? ⟨b, off + k * 5, none⟩ = some (.string f.name) ∧ w1.cell? ⟨b, off + k * 5 + 1, none⟩ = some (.int .i64 f.params) ∧ w1.cell? ⟨b, off + k * 5 + 2, none⟩ = some (.int .i64 f.locals) ∧ w1.cell? ⟨b, off + k * 5 + 3, none⟩ = some (.slice a1 CL c1) ∧ w1.cell? ⟨b, off + k * 5 + 4, none⟩ = some (.slice a2 HL c2)) :=
      ⟨(hBw.cell (p := ⟨b, off + k * 5, none⟩) hb).trans (unhide CS 0 _ rfl), (hBw.cell (p := ⟨b, off + k * 5 + 1, none⟩) hb).trans (unhide CS 1 _ rfl), (hBw.cell (p := ⟨b, off + k * 5 + 2, none⟩) hb).trans (unhide CS 2 _ rfl), (hBw.cell (p := ⟨b, off + k * 5 + 3, none⟩) hb).trans (unhide CS 3 _ rfl), (hBw.cell (p := ⟨b, off + k * 5 + 4, none⟩) hb).trans (unhide CS 4 _ rfl)⟩
    obtain ⟨k0, k1, k2, k3, k4⟩ := unhide hkc
    have hbr := Nat.lt_of_lt_of_le hb hBw.size
    have i0 : (0 : Int) ≤ (k : Int) := by omega
    have i1 : (k : Int) < (NF : Int) := by omega
    obtain ⟨W, hW⟩ : ∃ x, Hid (w1.alloc (.cells #[.string f.name, .int .i64 f.params, .int .i64 f.locals, .slice a1 CL c1, .slice a2 HL c2] 45) = x) := ⟨_, rfl⟩
    have hbW : Below (w1.heap.size + 1) (w1.alloc (.cells #[.string f.name, .int .i64 f.params, .int .i64 f.locals, .slice a1 CL c1, .slice a2 HL c2] 45)) W := by rw [← unhide hW]; exact Below.refl _ _
    obtain ⟨wbx, hw1W, hw1l⟩ := boxN hbW
    have F0W := wbx 0 _ rfl
    have F1W := wbx 1 _ rfl
    have F2W := wbx 2 _ rfl
    have F3W := wbx 3 _ rfl
    have F4W := wbx 4 _ rfl
    have P0W := (hw1W.cell (p := ⟨w.heap.size, 0, none⟩) hwl).trans p0
    have P1W := (hw1W.cell (p := ⟨w.heap.size, 1, none⟩) hwl).trans p1
    have HwW := hide (hBw.trans (hw1W.mono hBw.size))
    have HR2 := hide hr2
    clear hr2 hbW wbx hw1W hkc
    go_wp2_with fail
    rw [unhide hW]
    clear k0 k1 k2 k3 k4 p0 p1
    go_loopg [9, 10] CL (fun gg t9 t10 wr => ∃ (i : Nat), Hid (i + gg = CL) ∧ t9 = .int .i64 (i : Int) ∧ Hid (Below W.heap.size W wr) ∧ Hid (orE (cdG p f (f.code.drop i) i) (hsF f) = r))
    case atStart => exact ⟨0, by unfold Hid; omega, rfl, Below.refl _ _, by unfold Hid; exact unhide HR2⟩
    case round =>
      clear HR2
      obtain ⟨i, hi, rfl, hB0, hG⟩ := hrel
      have f3 := heldIn (unhide hB0) F3W
      have f4 := heldIn (unhide hB0) F4W
      by_cases hlt : i < CL
      · obtain ⟨q, hq⟩ : ∃ q, f.code[i]? = some q := ⟨_, List.getElem?_eq_getElem (by rw [unhide hCL]; exact hlt)⟩
        obtain ⟨cb, coff, _, e, _, _, hcb, ccs⟩ := unhide HCE i q hq
        cases e
        have hG2 := unhide hG
        rw [cdG_at hq] at hG2
        have hqI := unhide HII q (List.mem_of_getElem? hq)
        obtain ⟨op, a⟩ := q
        have ic0 : W.cell? ⟨cb, coff + i * 2, none⟩ = some (.int .i64 op) := ((unhide HwW).cell (p := ⟨cb, coff + i * 2, none⟩) hcb).trans (ccs 0 _ rfl)
        have ic1 : W.cell? ⟨cb, coff + i * 2 + 1, none⟩ = some (.int .i64 a) := ((unhide HwW).cell (p := ⟨cb, coff + i * 2 + 1, none⟩) hcb).trans (ccs 1 _ rfl)
        have j0 : (0 : Int) ≤ (i : Int) := by omega
        have j1 : (i : Int) < (CL : Int) := by omega
        have d0 := heldIn (unhide hB0) ic0
        have d1 := heldIn (unhide hB0) ic1
        have HK := hide (fun wx => dCheck_any wx op a hqI)
        obtain ⟨er, her⟩ : ∃ z, erN op a = z := ⟨_, rfl⟩
        have HPOS : Hid (er = 0 → kdI op = 4 → 0 ≤ a) := fun h h2 => erN_pos (her.trans h) h2
        simp only [her] at HK hG2
        have HG2 := hide hG2
        clear ccs hq hG2 her hqI
        go_wp2_with fail
        refine (unhide HK _).mono ?_
        rintro e w2 ⟨rfl, hb2⟩
        have hBc := hide ((unhide hB0).trans (hb2.mono (unhide hB0).size))
        clear hb2 d0 d1 f3 f4 HK
        by_cases he : er = 0
        · subst he
          have hG3 := unhide HG2
          rw [if_neg (by simp)] at hG3
          have HNM := hide (fun wx (hx : Below W.heap.size W wx) => names_any ((unhide HPV).below ((unhide HwW).trans (hx.mono (unhide HwW).size)) (Nat.le_refl _)) ((unhide HFN).below ((unhide HwW).trans (hx.mono (unhide HwW).size)) (Nat.le_refl _)) op a (unhide HPOS rfl))
          simp only at HNM
          obtain ⟨nv, hnv⟩ : ∃ z, nmB p f op a = z := ⟨_, rfl⟩
          rw [hnv] at hG3
          have HG3 := hide hG3
          clear hG3
          go_wp2_with fail
          refine wp_region_held_drew (S := (fun wx => Below W.heap.size W wx)) (by kernel_rfl) (Below.drawn (unhide hBc)) (fun hHeld => ?_)
          refine wpAnyH_take (i := 0) (oi := _) (v := .agg #[.slice ca NC ccap, .slice (some ⟨b, off, none⟩) NF fcap]) rfl (by kernel_rfl) (by kernel_rfl) (by kernel_rfl) (fun _ _ _ h => h) (Or.inl ⟨by rfl, (by intro w hSw; have hs0 := heldIn hSw P0W; have hs1 := heldIn hSw P1W; go_simp)⟩) (by assumption) ?_
          refine wpAnyH_take (i := 1) (oi := _) (v := .agg #[.string f.name, .int .i64 f.params, .int .i64 f.locals, .slice (some ⟨cb, coff, none⟩) CL c1, .slice a2 HL c2]) rfl (by kernel_rfl) (by kernel_rfl) (by kernel_rfl) (fun _ _ _ h => h) (Or.inl ⟨by rfl, (by intro w hSw; have ht0 := heldIn hSw F0W; have ht1 := heldIn hSw F1W; have ht2 := heldIn hSw F2W; have ht3 := heldIn hSw F3W; have ht4 := heldIn hSw F4W; go_simp)⟩) (by assumption) ?_
          go_simp
          refine wpAnyH_take (i := 2) (oi := _) (v := .pointer (some ⟨w1.heap.size, 3, none⟩)) rfl (by kernel_rfl) (by kernel_rfl) (by kernel_rfl) (fun _ _ _ h => h) (Or.inl ⟨by rfl, (by intro w hSw; go_simp)⟩) (by assumption) ?_
          refine wpAnyH_take (i := 3) (oi := _) (v := .slice (some ⟨cb, coff, none⟩) CL c1) rfl (by kernel_rfl) (by kernel_rfl) (by kernel_rfl) (fun _ _ _ h => h) (Or.inl ⟨by rfl, (by intro w hSw; have ht3 := heldIn hSw F3W; go_simp)⟩) (by assumption) ?_
          go_simp
          refine wpAnyH_take (i := 4) (oi := _) (v := .int .i64 (i : Int)) rfl (by kernel_rfl) (by kernel_rfl) (by kernel_rfl) (fun _ _ _ h => h) (Or.inl ⟨by rfl, (by intro w hSw; go_simp)⟩) (by assumption) ?_
          refine wpAnyH_take (i := 5) (oi := _) (v := .pointer (some ⟨cb, coff + i * 2, none⟩)) rfl (by kernel_rfl) (by kernel_rfl) (by kernel_rfl) (fun _ _ _ h => h) (Or.inl ⟨by rfl, (by intro w hSw; go_simp)⟩) (by assumption) ?_
          go_simp
          refine wpAnyH_take (i := 6) (oi := _) (v := .agg #[.int .i64 op, .int .i64 a]) rfl (by kernel_rfl) (by kernel_rfl) (by kernel_rfl) (fun _ _ _ h => h) (Or.inl ⟨by rfl, (by intro w hSw; have hs0 := heldIn hSw ic0; have hs1 := heldIn hSw ic1; go_simp)⟩) (by assumption) ?_
          go_simp
          refine wpAnyH_ready (rs := [7]) (by kernel_rfl) (by simp) ?_
          refine AllReadyH.cons (o := _) rfl (fun K hK => ?_) AllReadyH.nil
          go_simp
          refine (unhide HNM _ (Below.drawn (unhide hBc))).mono ?_
          rintro e w3 ⟨rfl, hb3⟩
          have bb3 : Below W.heap.size W w3 := (unhide hBc).trans ((fun k => (⟨k.os, k.tape, k.output, k.size, k.block⟩ : Below w2.heap.size w2 w3)) hb3 |>.mono (unhide hBc).size)
          rw [hnv]
          go_simp
          refine hK.out _ _ bb3 (fun hHeld1 => ?_)
          clear hK K
          go_simp
          refine wpAnyH_take (i := 8) (oi := _) (v := .bool (!nv)) rfl (by kernel_rfl) (by kernel_rfl) (by kernel_rfl) (fun _ _ _ h => h) (Or.inl ⟨by rfl, (by intro w hSw; go_simp)⟩) (by assumption) ?_
          refine wpAnyH_done (by kernel_rfl) ?_ _
          clear hHeld hHeld1
          have HB3 := hide bb3
          clear hb3 bb3
          cases nv
          · obtain rfl : some ((i : Int), 8) = r := by rw [← unhide HG3]; rfl
            go_wp2_with fail
            go_ret2
            exact ⟨rfl, (unhide HwW).trans ((unhide HB3).mono (unhide HwW).size)⟩
          · go_wp2_with fail
            go_roundg (gk - 1)
            case measure => have := unhide hi; omega
            case rel => exact ⟨i + 1, by have := unhide hi; unfold Hid; omega, by go_num, HB3, by have := unhide HG3; simpa [Hid] using this⟩
        · have ke : (er != 0) = true := by rw [bne_iff_ne]; exact he
          obtain rfl : some ((i : Int), er) = r := by rw [← unhide HG2, if_pos he]; rfl
          go_wp2_with fail
          go_ret2
          exact ⟨rfl, (unhide HwW).trans ((unhide hBc).mono (unhide HwW).size)⟩
      · have hiL : CL = i := by have := unhide hi; omega
        subst hiL
        have hG2 := unhide hG
        rw [List.drop_eq_nil_of_le (by rw [unhide hCL]; exact Nat.le_refl _)] at hG2
        simp only [cdG, orE] at hG2
        unfold hsF at hG2
        rw [unhide hHL, unhide hCL] at hG2
        by_cases h32 : HL > 32
        · rw [if_pos h32] at hG2
          subst hG2
          have k32 : (32 : Int) < (HL : Int) := by omega
          go_wp2_with fail
          go_ret2
          exact ⟨rfl, (unhide HwW).trans ((unhide hB0).mono (unhide HwW).size)⟩
        · rw [if_neg h32] at hG2
          have k32 : decide ((32 : Int) < (HL : Int)) = false := decide_eq_false (by omega)
          have HG2 := hide hG2
          clear hG2
          go_wp2_with fail
          go_loopg [11] HL (fun gg t11 wr => ∃ (i : Nat), Hid (i + gg = HL) ∧ t11 = .int .i64 (i : Int) ∧ Hid (Below W.heap.size W wr) ∧ Hid (∀ (j : Nat) (g : Hd), j < i → f.hs[j]? = some g → fitB g CL = true))
          case atStart => exact ⟨0, by unfold Hid; omega, rfl, hB0, by unfold Hid; intro j g hj; omega⟩
          case round =>
            clear hB0 hi f3 f4
            obtain ⟨i, hi, rfl, hBc, hM⟩ := hrel
            have f3 := heldIn (unhide hBc) F3W
            have f4 := heldIn (unhide hBc) F4W
            by_cases hlt2 : i < HL
            · obtain ⟨h, hh⟩ : ∃ h, f.hs[i]? = some h := ⟨_, List.getElem?_eq_getElem (by rw [unhide hHL]; exact hlt2)⟩
              obtain ⟨hb2, hoff, _, e, _, _, hhb, hcs⟩ := unhide HHE i h hh
              cases e
              have ic0 : W.cell? ⟨hb2, hoff + i * 4, none⟩ = some (.int .i64 h.frm) := ((unhide HwW).cell (p := ⟨hb2, hoff + i * 4, none⟩) hhb).trans (hcs 0 _ rfl)
              have ic1 : W.cell? ⟨hb2, hoff + i * 4 + 1, none⟩ = some (.int .i64 h.to) := ((unhide HwW).cell (p := ⟨hb2, hoff + i * 4 + 1, none⟩) hhb).trans (hcs 1 _ rfl)
              have ic2 : W.cell? ⟨hb2, hoff + i * 4 + 2, none⟩ = some (.int .i64 h.target) := ((unhide HwW).cell (p := ⟨hb2, hoff + i * 4 + 2, none⟩) hhb).trans (hcs 2 _ rfl)
              have ic3 : W.cell? ⟨hb2, hoff + i * 4 + 3, none⟩ = some (.int .i64 h.height) := ((unhide HwW).cell (p := ⟨hb2, hoff + i * 4 + 3, none⟩) hhb).trans (hcs 3 _ rfl)
              have j0 : (0 : Int) ≤ (i : Int) := by omega
              have j1 : (i : Int) < (HL : Int) := by omega
              have HNM := hide (fun wx (hx : Below W.heap.size W wx) => handler_any h CL wx)
              obtain ⟨nv, hnv⟩ : ∃ z, fitB h CL = z := ⟨_, rfl⟩
              have HHH := hide hh
              clear hcs hh
              go_wp2_with fail
              refine wp_region_held_drew (S := (fun wx => Below W.heap.size W wx)) (by kernel_rfl) (Below.drawn (unhide hBc)) (fun hHeld => ?_)
              refine wpAnyH_take (i := 0) (oi := _) (v := .pointer (some ⟨w1.heap.size, 4, none⟩)) rfl (by kernel_rfl) (by kernel_rfl) (by kernel_rfl) (fun _ _ _ h => h) (Or.inl ⟨by rfl, (by intro w hSw; go_simp)⟩) (by assumption) ?_
              refine wpAnyH_take (i := 1) (oi := _) (v := .slice (some ⟨hb2, hoff, none⟩) HL c2) rfl (by kernel_rfl) (by kernel_rfl) (by kernel_rfl) (fun _ _ _ h => h) (Or.inl ⟨by rfl, (by intro w hSw; have ht4 := heldIn hSw F4W; go_simp)⟩) (by assumption) ?_
              go_simp
              refine wpAnyH_take (i := 2) (oi := _) (v := .int .i64 (i : Int)) rfl (by kernel_rfl) (by kernel_rfl) (by kernel_rfl) (fun _ _ _ h => h) (Or.inl ⟨by rfl, (by intro w hSw; go_simp)⟩) (by assumption) ?_
              refine wpAnyH_take (i := 3) (oi := _) (v := .pointer (some ⟨hb2, hoff + i * 4, none⟩)) rfl (by kernel_rfl) (by kernel_rfl) (by kernel_rfl) (fun _ _ _ h => h) (Or.inl ⟨by rfl, (by intro w hSw; go_simp)⟩) (by assumption) ?_
              go_simp
              refine wpAnyH_take (i := 4) (oi := _) (v := .agg #[.int .i64 h.frm, .int .i64 h.to, .int .i64 h.target, .int .i64 h.height]) rfl (by kernel_rfl) (by kernel_rfl) (by kernel_rfl) (fun _ _ _ h => h) (Or.inl ⟨by rfl, (by intro w hSw; have hs0 := heldIn hSw ic0; have hs1 := heldIn hSw ic1; have hs2 := heldIn hSw ic2; have hs3 := heldIn hSw ic3; go_simp)⟩) (by assumption) ?_
              go_simp
              refine wpAnyH_take (i := 5) (oi := _) (v := .pointer (some ⟨w1.heap.size, 3, none⟩)) rfl (by kernel_rfl) (by kernel_rfl) (by kernel_rfl) (fun _ _ _ h => h) (Or.inl ⟨by rfl, (by intro w hSw; go_simp)⟩) (by assumption) ?_
              refine wpAnyH_take (i := 6) (oi := _) (v := .slice a1 CL c1) rfl (by kernel_rfl) (by kernel_rfl) (by kernel_rfl) (fun _ _ _ h => h) (Or.inl ⟨by rfl, (by intro w hSw; have ht3 := heldIn hSw F3W; go_simp)⟩) (by assumption) ?_
              go_simp
              refine wpAnyH_take (i := 7) (oi := _) (v := .int .i64 (CL : Int)) rfl (by kernel_rfl) (by kernel_rfl) (by kernel_rfl) (fun _ _ _ h => h) (Or.inl ⟨by rfl, (by intro w hSw; go_simp)⟩) (by assumption) ?_
              go_simp
              refine wpAnyH_ready (rs := [8]) (by kernel_rfl) (by simp) ?_
              refine AllReadyH.cons (o := _) rfl (fun K hK => ?_) AllReadyH.nil
              go_simp
              refine (unhide HNM _ (Below.drawn (unhide hBc))).mono ?_
              rintro e w3 ⟨rfl, hb3⟩
              have bb3 : Below W.heap.size W w3 := (unhide hBc).trans ((fun k => (⟨k.os, k.tape, k.output, k.size, k.block⟩ : Below wr.heap.size wr w3)) hb3 |>.mono (unhide hBc).size)
              rw [hnv]
              go_simp
              refine hK.out _ _ bb3 (fun hHeld1 => ?_)
              clear hK K
              go_simp
              refine wpAnyH_take (i := 9) (oi := _) (v := .bool (!nv)) rfl (by kernel_rfl) (by kernel_rfl) (by kernel_rfl) (fun _ _ _ h => h) (Or.inl ⟨by rfl, (by intro w hSw; go_simp)⟩) (by assumption) ?_
              refine wpAnyH_done (by kernel_rfl) ?_ _
              clear hHeld hHeld1
              have HB3 := hide bb3
              clear hb3 bb3
              cases nv
              · obtain rfl : some ((i : Int), 8) = r := by
                  rw [← unhide HG2, hsG_bad (unhide HHH) hnv (unhide hM)]
                  simp
                go_wp2_with fail
                go_ret2
                exact ⟨rfl, (unhide HwW).trans ((unhide HB3).mono (unhide HwW).size)⟩
              · go_wp2_with fail
                go_roundg (gk - 1)
                case measure => have := unhide hi; omega
                case rel => exact ⟨i + 1, by have := unhide hi; unfold Hid; omega, by have := unhide hHx; go_num, HB3, by
                  unfold Hid
                  intro j g hj hg
                  by_cases q : j = i
                  · subst q; rw [unhide HHH] at hg; cases hg; exact hnv
                  · exact unhide hM j g (by omega) hg⟩
            · have hiL : i = HL := by have := unhide hi; omega
              have j1 : decide ((i : Int) < (HL : Int)) = false := decide_eq_false (by omega)
              obtain rfl : none = r := by
                rw [← unhide HG2]
                exact (hsG_ok (fun j g hg => unhide hM j g (by have := (List.getElem?_eq_some_iff.1 hg).1; rw [unhide hHL] at this; omega) hg)).symm
              go_wp2_with fail
              go_ret2
              exact ⟨rfl, (unhide HwW).trans ((unhide hBc).mono (unhide HwW).size)⟩
end
end Go.Proofs.YtbkfnmkfbdoadaaGreatDoor
