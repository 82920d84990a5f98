/-
  Does an instruction ask for a register: the law's own way.
-/
import Derived.Test.YtpbdmbmafjkinaaDoorTk
import Derived.Test.YtpbdmbmafjkinaaDoorWy0
namespace Go.Proofs.YtpbdmbmafjkinaaDoor
open Go.RowKit
set_option linter.unusedVariables false
set_option linter.unusedSimpArgs false
set_option maxRecDepth 100000 in
set_option maxHeartbeats 6400000 in
theorem asksL_any {w : World} {D : Nat → Prop} {x : RIn} {q : InR} (h : InP D w x q) (r : Nat) (hA : x.args.length ≤ 1048576) (hE : x.ex.length ≤ 1048576) (hS : ∀ s ∈ x.ex, s.sl.length ≤ 1048576) :
    Calls Tryd.prog 58 #[inV q, .int .i64 (r : Int)] w fun e w' => e = .returned (.bool (askE x r)) ∧ Below w.heap.size w w' := by
  obtain ⟨op, code, dst, av, n, pc, need, ev⟩ := q
  obtain ⟨h1, h2, h3, h4, h5, h6, h7, h8⟩ := h
  simp only at h1 h2 h3 h4 h5 h6 h7 h8
  subst h1 h2 h3 h4 h5 h6
  unfold inV
  simp only
  obtain ⟨aa, ac, rfl, ha1, ha2⟩ := h7.1.shape
  obtain ⟨ea, ec, rfl, he1, he2⟩ := NV.shape h8
  obtain ⟨AL, hAL⟩ : ∃ z, Hid (x.args.length = z) := ⟨_, hide rfl⟩
  obtain ⟨EL, hEL⟩ : ∃ z, Hid (x.ex.length = z) := ⟨_, hide rfl⟩
  obtain ⟨W, hW⟩ : ∃ W, Hid (w.alloc (.cells #[.int .i64 x.op, .int .i64 x.code, .int .i64 x.dst, .slice aa x.args.length ac, .int .i64 x.n, .int .i64 x.pc, .int .i64 x.need, .slice ea x.ex.length ec] 51) = W) := ⟨_, hide rfl⟩
  have HW : Hid (Below w.heap.size w W) := by rw [← unhide hW]; exact box1n w _
  have hn := heap_alloc_new w (.cells #[.int .i64 x.op, .int .i64 x.code, .int .i64 x.dst, .slice aa x.args.length ac, .int .i64 x.n, .int .i64 x.pc, .int .i64 x.need, .slice ea x.ex.length ec] 51)
  rw [unhide hW] at hn
  have c3 := (blk_cells hn).1 3
  have c7 := (blk_cells hn).1 7
  have cl := (blk_cells hn).2.2
  simp at c3 c7
  have H7 := hide h7
  have H8 := hide h8
  have HS := hide hS
  rw [unhide hAL] at c3 ha1 hA ⊢
  rw [unhide hEL] at c7 he1 hE ⊢
  rw [unhide hAL, unhide hEL] at hW
  have hW' := unhide hW
  unfold maxLen at ha2 he2
  have HAX : Hid (AX w aa AL ac ea EL ec W) := ⟨unhide HW, c3, c7, cl⟩
  clear h7 h8 hn hS HW
  go_enter Tryd.func58, Tryd.ntmps58
  go_wp2_with fail
  clear c3 c7 cl
  go_loopg [5] AL (fun gg t5 wr => ∃ i : Nat, Hid (i + gg = AL) ∧ t5 = .int .i64 (i : Int) ∧ Hid (AX w aa AL ac ea EL ec wr ∧ askL (x.args.take i) r = false))
  case atStart => exact ⟨0, by unfold Hid; omega, rfl, unhide HAX, by simp [askL]⟩
  case round =>
    obtain ⟨i, hi, rfl, hG⟩ := hrel
    obtain ⟨hX, hF⟩ := unhide hG
    have HX := hide hX
    have HF := hide hF
    obtain ⟨hb0, c3, c7, cl⟩ := hX
    clear hG hF HAX hW' hW
    by_cases hlt : i < AL
    · have i0 : (0 : Int) ≤ (i : Int) := by omega
      have i1 : (i : Int) < (AL : Int) := by omega
      obtain ⟨o, ho⟩ : ∃ o, x.args[i]? = some o := ⟨_, List.getElem?_eq_getElem (by rw [unhide hAL]; exact hlt)⟩
      obtain ⟨b, off, cap, e, _, _, hb, hc⟩ := (unhide H7).1.elem zO ho
      rw [unhide hAL] at e
      cases e
      have k0 : wr.cell? ⟨b, off + i * 2, none⟩ = some (.int .i64 o.k) := (hb0.cell (p := ⟨b, off + i * 2, none⟩) hb).trans (hc 0 _ rfl)
      have k1 : wr.cell? ⟨b, off + i * 2 + 1, none⟩ = some (.int .i64 o.n) := (hb0.cell (p := ⟨b, off + i * 2 + 1, none⟩) hb).trans (hc 1 _ rfl)
      have kl : b < wr.heap.size := Nat.lt_of_lt_of_le hb hb0.size
      have HO := hide ho
      clear hc ho
      by_cases hk : o.k = 0
      · have hk0 : (o.k == 0) = true := by simp [hk]
        have hkd : decide (o.k = 0) = true := by simp [hk]
        by_cases hr : o.n = (r : Int)
        · have hr0 : (o.n == (r : Int)) = true := by simp [hr]
          have hrd : decide (o.n = (r : Int)) = true := by simp [hr]
          have HA2 : Hid (askE x r = true) := by unfold Hid askE; rw [askL_hit (unhide HO) hk hr]; rfl
          clear hk hr
          go_wp2_with fail
          first | go_ret | go_end0
          exact ⟨by rw [unhide HA2]; rfl, hb0⟩
        · have hr0 : (o.n == (r : Int)) = false := by simp [hr]
          have hrd : decide (o.n = (r : Int)) = false := by simp [hr]
          have HF2 : Hid (AX w (some ⟨b, off, none⟩) AL ac ea EL ec wr ∧ askL (x.args.take (i + 1)) r = false) := ⟨unhide HX, askL_take (unhide HO) (unhide HF) (fun q => hr q.2)⟩
          clear hk hr
          go_wp2_with fail
          go_roundg (gk - 1)
          case measure => have := unhide hi; omega
          case rel => exact ⟨i + 1, by have := unhide hi; unfold Hid; omega, by go_num, HF2⟩
      · have hk0 : (o.k == 0) = false := by simp [hk]
        have hkd : decide (o.k = 0) = false := by simp [hk]
        have HF2 : Hid (AX w (some ⟨b, off, none⟩) AL ac ea EL ec wr ∧ askL (x.args.take (i + 1)) r = false) := ⟨unhide HX, askL_take (unhide HO) (unhide HF) (fun q => hk q.1)⟩
        clear hk
        go_wp2_with fail
        go_roundg (gk - 1)
        case measure => have := unhide hi; omega
        case rel => exact ⟨i + 1, by have := unhide hi; unfold Hid; omega, by go_num, HF2⟩
    · have hiL : AL = i := by have := unhide hi; omega
      have HFA : Hid (askL x.args r = false) := by have := unhide HF; rw [List.take_of_length_le (by rw [unhide hAL]; omega)] at this; exact this
      have i1 : ¬ (i : Int) < (AL : Int) := by omega
      clear hiL HF
      go_wp2_with fail
      clear c3 c7 cl hb0 i1 hlt
      go_loopg [6] EL (fun gg t6 wr => ∃ i : Nat, Hid (i + gg = EL) ∧ t6 = .int .i64 (i : Int) ∧ Hid (AX w aa AL ac ea EL ec wr ∧ (x.ex.take i).any (fun s => askL s.sl r) = false))
      case atStart => exact ⟨0, by unfold Hid; omega, rfl, unhide HX, by simp⟩
      case round =>
        obtain ⟨i, hi, rfl, hG⟩ := hrel
        obtain ⟨hX, hF⟩ := unhide hG
        clear HX
        have HX := hide hX
        have HF := hide hF
        obtain ⟨hb0, c3, c7, cl⟩ := hX
        clear hG hF
        by_cases hlt : i < EL
        · have i0 : (0 : Int) ≤ (i : Int) := by omega
          have i1 : (i : Int) < (EL : Int) := by omega
          obtain ⟨f, hf⟩ : ∃ f, x.ex[i]? = some f := ⟨_, List.getElem?_eq_getElem (by rw [unhide hEL]; exact hlt)⟩
          obtain ⟨g, eo, ecp, q, e, hg, hDg, hP, hcell⟩ := NV.at zSh (unhide H8) hf
          rw [unhide hEL] at e
          cases e
          obtain ⟨rfn, rpc, rv⟩ := q
          obtain ⟨p1, p2, p3⟩ := hP
          simp only at p1 p2 p3
          obtain ⟨sa, sc, rfl, hs1, hs2⟩ := p3.1.shape
          unfold maxLen at hs2
          have HP3 := hide p3
          have HFF := hide hf
          have HSL := unhide HS f (List.mem_of_getElem? hf)
          have HCL : Hid (∀ V, Below w.heap.size w V → V.cell? ⟨g, eo + i * 3 + 2, none⟩ = some (.slice sa f.sl.length sc) ∧ g < V.heap.size) := fun V hV => ⟨(hV.cell (p := ⟨g, eo + i * 3 + 2, none⟩) hg).trans (hcell 2 _ rfl), Nat.lt_of_lt_of_le hg hV.size⟩
          obtain ⟨SL, hSL⟩ : ∃ z, Hid (f.sl.length = z) := ⟨_, hide rfl⟩
          rw [unhide hSL] at HCL hs1 HSL
          clear hcell p3 hf
          go_wp2_with fail
          clear c3 c7 cl hb0
          go_loopg [7] SL (fun gg t7 wr => ∃ j : Nat, Hid (j + gg = SL) ∧ t7 = .int .i64 (j : Int) ∧ Hid (AX w aa AL ac (some ⟨g, eo, none⟩) EL ec wr ∧ askL (f.sl.take j) r = false))
          case atStart => exact ⟨0, by unfold Hid; omega, rfl, unhide HX, by simp [askL]⟩
          case round =>
            obtain ⟨j, hj, rfl, hG⟩ := hrel
            obtain ⟨hX, hF2⟩ := unhide hG
            clear HX
            have HX := hide hX
            have HF2 := hide hF2
            obtain ⟨hb0, c3, c7, cl⟩ := hX
            obtain ⟨t1, t2⟩ := unhide HCL wr hb0
            clear hG hF2
            by_cases hjl : j < SL
            · have j0 : (0 : Int) ≤ (j : Int) := by omega
              have j1 : (j : Int) < (SL : Int) := by omega
              obtain ⟨o, ho⟩ : ∃ o, f.sl[j]? = some o := ⟨_, List.getElem?_eq_getElem (by rw [unhide hSL]; exact hjl)⟩
              obtain ⟨b, off, cap, e, _, _, hb, hc⟩ := (unhide HP3).1.elem zO ho
              rw [unhide hSL] at e
              cases e
              have k0 : wr.cell? ⟨b, off + j * 2, none⟩ = some (.int .i64 o.k) := (hb0.cell (p := ⟨b, off + j * 2, none⟩) hb).trans (hc 0 _ rfl)
              have k1 : wr.cell? ⟨b, off + j * 2 + 1, none⟩ = some (.int .i64 o.n) := (hb0.cell (p := ⟨b, off + j * 2 + 1, none⟩) hb).trans (hc 1 _ rfl)
              have kl : b < wr.heap.size := Nat.lt_of_lt_of_le hb hb0.size
              have HO := hide ho
              obtain ⟨W2, hW2⟩ : ∃ W2, Hid (wr.alloc (.cells #[.int .i64 o.k, .int .i64 o.n] 70) = W2) := ⟨_, hide rfl⟩
              have HB2 : Hid (Below wr.heap.size wr W2) := by rw [← unhide hW2]; exact box1n wr _
              have hn2 := heap_alloc_new wr (.cells #[.int .i64 o.k, .int .i64 o.n] 70)
              rw [unhide hW2] at hn2
              have d0 := (blk_cells hn2).1 0
              have d1 := (blk_cells hn2).1 1
              simp at d0 d1
              have hW2' := unhide hW2
              have HX2 := hide ((unhide HX).on (unhide HB2))
              clear hc ho hn2
              by_cases hk : o.k = 0
              · have hk0 : (o.k == 0) = true := by simp [hk]
                have hkd : decide (o.k = 0) = true := by simp [hk]
                by_cases hr : o.n = (r : Int)
                · have hr0 : (o.n == (r : Int)) = true := by simp [hr]
                  have hrd : decide (o.n = (r : Int)) = true := by simp [hr]
                  have HA2 : Hid (askE x r = true) := by unfold Hid askE; rw [anyE_hit (unhide HFF) (askL_hit (unhide HO) hk hr)]; simp
                  clear hk hr
                  go_wp2_with fail
                  first | go_ret | go_end0
                  exact ⟨by rw [unhide HA2]; rfl, (unhide HX).1⟩
                · have hr0 : (o.n == (r : Int)) = false := by simp [hr]
                  have hrd : decide (o.n = (r : Int)) = false := by simp [hr]
                  have HF3 : Hid (AX w aa AL ac (some ⟨g, eo, none⟩) EL ec wr ∧ askL (f.sl.take (j + 1)) r = false) := ⟨unhide HX, askL_take (unhide HO) (unhide HF2) (fun q => hr q.2)⟩
                  clear hk hr
                  go_wp2_with fail
                  go_roundg (gk - 1)
                  case measure => have := unhide hj; omega
                  case rel => exact ⟨j + 1, by have := unhide hj; unfold Hid; omega, by go_num, HF3⟩
              · have hk0 : (o.k == 0) = false := by simp [hk]
                have hkd : decide (o.k = 0) = false := by simp [hk]
                have HF3 : Hid (AX w aa AL ac (some ⟨g, eo, none⟩) EL ec wr ∧ askL (f.sl.take (j + 1)) r = false) := ⟨unhide HX, askL_take (unhide HO) (unhide HF2) (fun q => hk q.1)⟩
                clear hk
                go_wp2_with fail
                go_roundg (gk - 1)
                case measure => have := unhide hj; omega
                case rel => exact ⟨j + 1, by have := unhide hj; unfold Hid; omega, by go_num, HF3⟩
            · have hjS : SL = j := by have := unhide hj; omega
              have HF3 : Hid (AX w aa AL ac (some ⟨g, eo, none⟩) EL ec wr ∧ (x.ex.take (i + 1)).any (fun s => askL s.sl r) = false) := ⟨unhide HX, anyE_take (unhide HFF) (unhide HF) (by have := unhide HF2; rw [List.take_of_length_le (by rw [unhide hSL]; omega)] at this; exact this)⟩
              have j1 : ¬ (j : Int) < (SL : Int) := by omega
              clear hjS HF2
              go_wp2_with fail
              go_roundg (EL - (i + 1))
              case measure => have := unhide hi; omega
              case rel => exact ⟨i + 1, by have := unhide hi; unfold Hid; omega, by go_num, HF3⟩
        · have hiE : EL = i := by have := unhide hi; omega
          have HA2 : Hid (askE x r = false) := by
            unfold Hid askE
            have h2 := unhide HF
            rw [List.take_of_length_le (by rw [unhide hEL]; omega)] at h2
            rw [unhide HFA, h2]; rfl
          have i1 : ¬ (i : Int) < (EL : Int) := by omega
          clear hiE HF
          go_wp2_with fail
          first | go_ret | go_end0
          exact ⟨by rw [unhide HA2]; rfl, hb0⟩

set_option linter.unusedVariables false
set_option linter.unusedSimpArgs false
end Go.Proofs.YtpbdmbmafjkinaaDoor
