/-
  The document's next instruction.
-/
import Derived.Test.YtadgiccfjppnfaaDn0
namespace Go.Proofs.Ytadgiccfjppnfaa
open Go.RowKit
set_option linter.unusedVariables false
set_option linter.unusedSimpArgs false
set_option maxRecDepth 100000 in
set_option maxHeartbeats 1600000 in
theorem dNext_yes {w : World} {pv v : Value} {p : Pg} {s : St} (hp : PgV w pv p) (h : StV w v s) (i : Nat) {fs : List Fm} {f : Fm} (hi : s.fibs[i]? = some fs) (n : Nat) (hn : fs.length = n + 1) (hf : fs[n]? = some f) (hN : n < 1048576) : Calls Try.prog 50 #[pv, v, .int .i64 i] w (DnP w (nxD p s i)) := by
  obtain ⟨ta, tc, oa, oc, ba, bc, rfl, -, -, rb, t1, t2, o1, o2, b1, b2⟩ := h.shape
  unfold maxLen at t2 o2 b2
  obtain ⟨ca, cc, pa, pc, rfl, hr, f1, f2⟩ := hp.shape
  unfold maxLen at f2
  obtain ⟨NT, hNT⟩ : ∃ n, Hid (s.texts.length = n) := ⟨_, hide rfl⟩
  obtain ⟨NO, hNO⟩ : ∃ n, Hid (s.objs.length = n) := ⟨_, hide rfl⟩
  obtain ⟨NB, hNB⟩ : ∃ n, Hid (s.fibs.length = n) := ⟨_, hide rfl⟩
  obtain ⟨NC, hNC⟩ : ∃ n, Hid (p.consts.length = n) := ⟨_, hide rfl⟩
  obtain ⟨NF, hNF⟩ : ∃ n, Hid (p.funcs.length = n) := ⟨_, hide rfl⟩
  rw [unhide hNT, unhide hNO, unhide hNB, unhide hNC, unhide hNF]
  rw [unhide hNB] at b1
  rw [unhide hNF] at f1
  have HB4 : Hid (∀ O1 O2 O3 O4, Below w.heap.size w ((((w.alloc O1).alloc O2).alloc O3).alloc O4)) := bl_four w
  have HB5 : Hid (∀ O1 O2 O3 O4 O5, Below w.heap.size w (((((w.alloc O1).alloc O2).alloc O3).alloc O4).alloc O5)) := bl_five w
  have hk : 0 ≤ (i : Int) ∧ (i : Int) < (s.fibs.length : Int) := by have := (List.getElem?_eq_some_iff.1 hi).1; omega
  have hgl : fs.getLast? = some f := by rw [List.getLast?_eq_getElem?, hn, Nat.add_sub_cancel]; exact hf
  have HN0 : Hid (nxD p s i = (insF p f.fn f.pc).map (fun x => (x, f))) := by unfold nxD; rw [if_pos hk, Int.toNat_natCast, hi]; simp only [Option.bind_some]; rw [hgl]; exact hide rfl
  have hil := (List.getElem?_eq_some_iff.1 hi).1
  rw [unhide hNB] at hil
  obtain ⟨b, off, fa, fc, ea, hb, k0, hF, hfl, hfm⟩ := rb.one hi
  cases ea
  have i0 : (0 : Int) ≤ (i : Int) := by omega
  have i1 : (i : Int) < (NB : Int) := by omega
  have g0 : decide ((i : Int) < 0) = false := decide_eq_false (by omega)
  have g1 : ¬ NB ≤ i := by omega
  have bl1 : b < w.heap.size + 1 := by omega
  have bl2 : b < w.heap.size + 1 + 1 := by omega
  have bl3 : b < w.heap.size + 1 + 1 + 1 := by omega
  have bl4 : b < w.heap.size + 1 + 1 + 1 + 1 := by omega
  rw [hn] at k0 hF hfl
  obtain ⟨fb, fo, sa, sc, ef, hfb, c0, c1, c2, hx, hsl, hsm⟩ := hF.three hf
  cases ef
  have HSM := hide hsm
  have HX := hide hx
  have HSL := hide hsl
  unfold maxLen at hfm hsm
  obtain ⟨fn, qc, sl⟩ := f
  simp only at c0 c1 c2 hsl HX HSL HN0 ⊢
  obtain ⟨SL, hSL⟩ : ∃ n, Hid (sl.length = n) := ⟨_, hide rfl⟩
  rw [unhide hSL] at c2 hsl
  have n0 : (0 : Int) ≤ (n : Int) := by omega
  have ee : IntKind.i64.wrap (((n + 1 : Nat) : Int) - 1) = (n : Int) := by rw [show ((n + 1 : Nat) : Int) - 1 = (n : Int) by omega]; go_arith
  have en : (((n + 1 : Nat) : Int) == 0) = false := by simp; omega
  have fbl1 : fb < w.heap.size + 1 := by omega
  have fbl2 : fb < w.heap.size + 1 + 1 := by omega
  have fbl3 : fb < w.heap.size + 1 + 1 + 1 := by omega
  have fbl4 : fb < w.heap.size + 1 + 1 + 1 + 1 := by omega
  clear h hp rb hi hF hx hf hn hgl hk
  by_cases hfn : 0 ≤ fn ∧ fn < (NF : Int)
  case neg =>
    have hin : insF p fn qc = none := by unfold insF; rw [if_neg (by rw [unhide hNF]; exact hfn)]
    clear hr
    by_cases q0 : 0 ≤ fn
    · have g2 : decide (fn < 0) = false := decide_eq_false (by omega)
      have g3 : decide ((NF : Int) ≤ fn) = true := decide_eq_true (by omega)
      clear hfn
      have HN : Hid (nxD p s i = none) := by
        have := unhide HN0
        rw [hin] at this
        exact this
      clear hin
      clear HN0
      go_enter Try.func50, Try.ntmps50
      go_wp2_with fail
      go_quiet (fail)
      go_wp2_with fail
      refine bodyPost_ret (v := .tuple #[.agg #[.int .i64 0, .int .i64 0], .agg #[.int .i64 0, .int .i64 0, .slice none 0 0], .bool false]) ?_ rfl ?_
      · rw [results_cct rfl]
        go_simp
      · have hP : ∀ W, Below w.heap.size w W → DnP w (nxD p s i) (.returned (.tuple #[.agg #[.int .i64 0, .int .i64 0], .agg #[.int .i64 0, .int .i64 0, .slice none 0 0], .bool false])) W := fun W hW => by rw [unhide HN]; exact ⟨rfl, hW⟩
        apply hP
        repeat (first | refine Below.setCell ?_ (by first | (simp; done) | (simp; omega)) _ | with_reducible exact bl_past (unhide HB5 _ _ _ _ _) (bl_drewN _ _))
    · have g2 : decide (fn < 0) = true := decide_eq_true (by omega)
      clear hfn
      have HN : Hid (nxD p s i = none) := by
        have := unhide HN0
        rw [hin] at this
        exact this
      clear hin
      clear HN0
      go_enter Try.func50, Try.ntmps50
      go_wp2_with fail
      go_quiet (fail)
      go_wp2_with fail
      refine bodyPost_ret (v := .tuple #[.agg #[.int .i64 0, .int .i64 0], .agg #[.int .i64 0, .int .i64 0, .slice none 0 0], .bool false]) ?_ rfl ?_
      · rw [results_cct rfl]
        go_simp
      · have hP : ∀ W, Below w.heap.size w W → DnP w (nxD p s i) (.returned (.tuple #[.agg #[.int .i64 0, .int .i64 0], .agg #[.int .i64 0, .int .i64 0, .slice none 0 0], .bool false])) W := fun W hW => by rw [unhide HN]; exact ⟨rfl, hW⟩
        apply hP
        repeat (first | refine Below.setCell ?_ (by first | (simp; done) | (simp; omega)) _ | with_reducible exact bl_past (unhide HB5 _ _ _ _ _) (bl_drewN _ _))
  obtain ⟨gi, rfl⟩ : ∃ i : Nat, fn = i := ⟨fn.toNat, by omega⟩
  obtain ⟨ff, hff⟩ : ∃ f, p.funcs[gi]? = some f := ⟨_, List.getElem?_eq_getElem (by have := unhide hNF; omega)⟩
  obtain ⟨pb, po, da, dc, ep, hpb, q3, hrx, hdl, hdm⟩ := hr.code hff
  cases ep
  unfold maxLen at hdm
  obtain ⟨CL, hCL⟩ : ∃ n, Hid (ff.code.length = n) := ⟨_, hide rfl⟩
  rw [unhide hCL] at q3 hdl
  have gi0 : (0 : Int) ≤ (gi : Int) := by omega
  have gi1 : (gi : Int) < (NF : Int) := hfn.2
  have g2 : decide ((gi : Int) < 0) = false := decide_eq_false (by omega)
  have g3 : ¬ NF ≤ gi := by omega
  have pbl1 : pb < w.heap.size + 1 := by omega
  have pbl2 : pb < w.heap.size + 1 + 1 := by omega
  have pbl3 : pb < w.heap.size + 1 + 1 + 1 := by omega
  have pbl4 : pb < w.heap.size + 1 + 1 + 1 + 1 := by omega

  have hfn2 : 0 ≤ (gi : Int) ∧ (gi : Int) < (p.funcs.length : Int) := by rw [unhide hNF]; exact hfn
  clear hr hfn
  by_cases hqc : 0 ≤ qc ∧ qc < (CL : Int)
  case neg =>
    have hin : insF p gi qc = none := by unfold insF; rw [if_pos hfn2, Int.toNat_natCast, hff]; simp only [Option.bind_some]; rw [if_neg (by rw [unhide hCL]; exact hqc)]
    clear hfn2 hff hrx
    by_cases q0 : 0 ≤ qc
    · have g4 : decide (qc < 0) = false := decide_eq_false (by omega)
      have g5 : decide ((CL : Int) ≤ qc) = true := decide_eq_true (by omega)
      clear hqc
      have HN : Hid (nxD p s i = none) := by
        have := unhide HN0
        rw [hin] at this
        exact this
      clear hin
      clear HN0
      go_enter Try.func50, Try.ntmps50
      go_wp2_with fail
      go_quiet (fail)
      go_wp2_with fail
      refine bodyPost_ret (v := .tuple #[.agg #[.int .i64 0, .int .i64 0], .agg #[.int .i64 0, .int .i64 0, .slice none 0 0], .bool false]) ?_ rfl ?_
      · rw [results_cct rfl]
        go_simp
      · have hP : ∀ W, Below w.heap.size w W → DnP w (nxD p s i) (.returned (.tuple #[.agg #[.int .i64 0, .int .i64 0], .agg #[.int .i64 0, .int .i64 0, .slice none 0 0], .bool false])) W := fun W hW => by rw [unhide HN]; exact ⟨rfl, hW⟩
        apply hP
        repeat (first | refine Below.setCell ?_ (by first | (simp; done) | (simp; omega)) _ | with_reducible exact bl_past (unhide HB5 _ _ _ _ _) (bl_drewN _ _))
    · have g4 : decide (qc < 0) = true := decide_eq_true (by omega)
      clear hqc
      have HN : Hid (nxD p s i = none) := by
        have := unhide HN0
        rw [hin] at this
        exact this
      clear hin
      clear HN0
      go_enter Try.func50, Try.ntmps50
      go_wp2_with fail
      go_quiet (fail)
      go_wp2_with fail
      refine bodyPost_ret (v := .tuple #[.agg #[.int .i64 0, .int .i64 0], .agg #[.int .i64 0, .int .i64 0, .slice none 0 0], .bool false]) ?_ rfl ?_
      · rw [results_cct rfl]
        go_simp
      · have hP : ∀ W, Below w.heap.size w W → DnP w (nxD p s i) (.returned (.tuple #[.agg #[.int .i64 0, .int .i64 0], .agg #[.int .i64 0, .int .i64 0, .slice none 0 0], .bool false])) W := fun W hW => by rw [unhide HN]; exact ⟨rfl, hW⟩
        apply hP
        repeat (first | refine Below.setCell ?_ (by first | (simp; done) | (simp; omega)) _ | with_reducible exact bl_past (unhide HB5 _ _ _ _ _) (bl_drewN _ _))
  obtain ⟨gj, rfl⟩ : ∃ i : Nat, qc = i := ⟨qc.toNat, by omega⟩
  obtain ⟨x, hxj⟩ : ∃ x, ff.code[gj]? = some x := ⟨_, List.getElem?_eq_getElem (by have := unhide hCL; omega)⟩
  have hin : insF p gi gj = some x := by unfold insF; rw [if_pos hfn2, Int.toNat_natCast, hff]; simp only [Option.bind_some]; rw [if_pos (by rw [unhide hCL]; exact hqc), Int.toNat_natCast, hxj]
  have j0 : (0 : Int) ≤ (gj : Int) := by omega
  have hjl := hqc.2
  have g4 : decide ((gj : Int) < 0) = false := decide_eq_false (by omega)
  clear hfn2 hff hqc
  obtain ⟨cb, co, _, ec, _, _, hcb, hcs⟩ := hrx.elem zI hxj
  cases ec
  obtain ⟨x1, x2⟩ := x
  have d0 : w.cell? ⟨cb, co + gj * 2, none⟩ = some (.int .i64 x1) := hcs 0 _ rfl
  have d1 : w.cell? ⟨cb, co + gj * 2 + 1, none⟩ = some (.int .i64 x2) := hcs 1 _ rfl
  have j1 : (gj : Int) < (CL : Int) := by omega
  have g5 : ¬ CL ≤ gj := by omega
  have HN : Hid (nxD p s i = some ((x1, x2), ⟨gi, gj, sl⟩)) := by
    have := unhide HN0
    rw [hin] at this
    exact this
  clear HN0 hin hrx hcs hxj
  go_enter Try.func50, Try.ntmps50
  go_wp2_with fail
  go_quiet (fail)
  have hbw : Below w.heap.size w ((((((w.alloc (.cells #[.slice ca NC cc, .slice (some ⟨pb, po, none⟩) NF pc] 48)).alloc (.cells #[.slice ta NT tc, .slice oa NO oc, .slice (some ⟨b, off, none⟩) NB bc, .int .i64 s.cur, .int .i64 s.steps, .int .i64 s.spent, .int .i64 s.read] 26)).alloc (.cells #[.int .i64 0, .int .i64 0] 95)).alloc (.cells #[.int .i64 0, .int .i64 0, .slice none 0 0] 38)).alloc (.cells #[.int .i64 (gi : Int), .int .i64 (gj : Int), .slice sa SL sc] 38)).drewN nq) := bl_past (unhide HB5 _ _ _ _ _) (bl_drewN _ nq)
  have hbk := blk5 w nq (.cells #[.slice ca NC cc, .slice (some ⟨pb, po, none⟩) NF pc] 48) (.cells #[.slice ta NT tc, .slice oa NO oc, .slice (some ⟨b, off, none⟩) NB bc, .int .i64 s.cur, .int .i64 s.steps, .int .i64 s.spent, .int .i64 s.read] 26) (.cells #[.int .i64 0, .int .i64 0] 95) (.cells #[.int .i64 0, .int .i64 0, .slice none 0 0] 38) (.cells #[.int .i64 (gi : Int), .int .i64 (gj : Int), .slice sa SL sc] 38)
  obtain ⟨X, hX⟩ : ∃ X, Hid ((((((w.alloc (.cells #[.slice ca NC cc, .slice (some ⟨pb, po, none⟩) NF pc] 48)).alloc (.cells #[.slice ta NT tc, .slice oa NO oc, .slice (some ⟨b, off, none⟩) NB bc, .int .i64 s.cur, .int .i64 s.steps, .int .i64 s.spent, .int .i64 s.read] 26)).alloc (.cells #[.int .i64 0, .int .i64 0] 95)).alloc (.cells #[.int .i64 0, .int .i64 0, .slice none 0 0] 38)).alloc (.cells #[.int .i64 (gi : Int), .int .i64 (gj : Int), .slice sa SL sc] 38)).drewN nq = X) := ⟨_, hide rfl⟩
  rw [unhide hX] at hbk hbw ⊢
  obtain ⟨k1, k3, k4, k5⟩ := hbk
  obtain ⟨za, _, l1⟩ := blk_cells k1
  obtain ⟨zb, fb3, l3⟩ := blk_cells k3
  obtain ⟨zc, fc4, l4⟩ := blk_cells k4
  obtain ⟨zd, _, l5⟩ := blk_cells k5
  have m1 := za 1
  have m2 := zd 0
  have m3 := zd 1
  have m4 := zd 2
  have z0 := zb 0
  have z1 := zb 1
  have y0 := zc 0
  have y1 := zc 1
  have y2 := zc 2
  have v0 := fb3 0
  have v1 := fb3 1
  have v2 := fc4 0
  have v3 := fc4 1
  have v4 := fc4 2
  simp at m1 m2 m3 m4 z0 z1 y0 y1 y2
  have u3 := (hbw.cell (p := ⟨pb, po + gi * 5 + 3, none⟩) hpb).trans q3
  have u0 := (hbw.cell (p := ⟨cb, co + gj * 2, none⟩) hcb).trans d0
  have u1 := (hbw.cell (p := ⟨cb, co + gj * 2 + 1, none⟩) hcb).trans d1
  have HB := hide hbw
  have hpb2 := Nat.lt_of_lt_of_le hpb hbw.size
  have hcb2 := Nat.lt_of_lt_of_le hcb hbw.size
  have hFF : ∀ W, Fr (fun k => k = w.heap.size + 1 + 1 ∨ k = w.heap.size + 1 + 1 + 1) X W → (W.cell? ⟨w.heap.size, 1, none⟩ = some (.slice (some ⟨pb, po, none⟩) NF pc) ∧ W.cell? ⟨w.heap.size + 1 + 1 + 1 + 1, 0, none⟩ = some (.int .i64 (gi : Int)) ∧ W.cell? ⟨w.heap.size + 1 + 1 + 1 + 1, 1, none⟩ = some (.int .i64 (gj : Int)) ∧ W.cell? ⟨w.heap.size + 1 + 1 + 1 + 1, 2, none⟩ = some (.slice sa SL sc) ∧ W.cell? ⟨pb, po + gi * 5 + 3, none⟩ = some (.slice (some ⟨cb, co, none⟩) CL dc) ∧ W.cell? ⟨cb, co + gj * 2, none⟩ = some (.int .i64 x1) ∧ W.cell? ⟨cb, co + gj * 2 + 1, none⟩ = some (.int .i64 x2)) := fun W hF =>
    ⟨(hF.cell (a := ⟨w.heap.size, 1, none⟩) l1 (show ¬ (w.heap.size = w.heap.size + 1 + 1 ∨ w.heap.size = w.heap.size + 1 + 1 + 1) by omega)).trans m1, (hF.cell (a := ⟨w.heap.size + 1 + 1 + 1 + 1, 0, none⟩) l5 (show ¬ (w.heap.size + 1 + 1 + 1 + 1 = w.heap.size + 1 + 1 ∨ w.heap.size + 1 + 1 + 1 + 1 = w.heap.size + 1 + 1 + 1) by omega)).trans m2, (hF.cell (a := ⟨w.heap.size + 1 + 1 + 1 + 1, 1, none⟩) l5 (show ¬ (w.heap.size + 1 + 1 + 1 + 1 = w.heap.size + 1 + 1 ∨ w.heap.size + 1 + 1 + 1 + 1 = w.heap.size + 1 + 1 + 1) by omega)).trans m3, (hF.cell (a := ⟨w.heap.size + 1 + 1 + 1 + 1, 2, none⟩) l5 (show ¬ (w.heap.size + 1 + 1 + 1 + 1 = w.heap.size + 1 + 1 ∨ w.heap.size + 1 + 1 + 1 + 1 = w.heap.size + 1 + 1 + 1) by omega)).trans m4,
      (hF.cell (a := ⟨pb, po + gi * 5 + 3, none⟩) hpb2 (show ¬ (pb = w.heap.size + 1 + 1 ∨ pb = w.heap.size + 1 + 1 + 1) by omega)).trans u3, (hF.cell (a := ⟨cb, co + gj * 2, none⟩) hcb2 (show ¬ (cb = w.heap.size + 1 + 1 ∨ cb = w.heap.size + 1 + 1 + 1) by omega)).trans u0, (hF.cell (a := ⟨cb, co + gj * 2 + 1, none⟩) hcb2 (show ¬ (cb = w.heap.size + 1 + 1 ∨ cb = w.heap.size + 1 + 1 + 1) by omega)).trans u1⟩
  have HFF := hide hFF
  clear hbw za zb zc zd fb3 fc4 hX k1 k3 k4 k5 hFF d0 d1 q3
  go_wp2_with fail
  go_region_held3 (fun w' => w'.cell? ⟨w.heap.size, 1, none⟩ = some (.slice (some ⟨pb, po, none⟩) NF pc) ∧ w'.cell? ⟨w.heap.size + 1 + 1 + 1 + 1, 0, none⟩ = some (.int .i64 (gi : Int)) ∧ w'.cell? ⟨w.heap.size + 1 + 1 + 1 + 1, 1, none⟩ = some (.int .i64 (gj : Int)) ∧ w'.cell? ⟨w.heap.size + 1 + 1 + 1 + 1, 2, none⟩ = some (.slice sa SL sc) ∧ w'.cell? ⟨pb, po + gi * 5 + 3, none⟩ = some (.slice (some ⟨cb, co, none⟩) CL dc) ∧ w'.cell? ⟨cb, co + gj * 2, none⟩ = some (.int .i64 x1) ∧ w'.cell? ⟨cb, co + gj * 2 + 1, none⟩ = some (.int .i64 x2)) (first | (refine unhide HFF _ ?_; repeat (first | refine Fr.drew ?_ | refine Fr.setCell ?_ _ (by simp) _ | with_reducible exact Fr.refl _ _)) | go_keep) (fail)
  go_wp2_with fail
  refine bodyPost_ret (v := .tuple #[.agg #[.int .i64 x1, .int .i64 x2], .agg #[.int .i64 (gi : Int), .int .i64 (gj : Int), .slice sa SL sc], .bool true]) ?_ rfl ?_
  · rw [results_cct rfl]
    go_simp
  · have hP : ∀ W, Below w.heap.size w W → DnP w (nxD p s i) (.returned (.tuple #[.agg #[.int .i64 x1, .int .i64 x2], .agg #[.int .i64 (gi : Int), .int .i64 (gj : Int), .slice sa SL sc], .bool true])) W := fun W hW => by rw [unhide HN]; exact ⟨sa, sc, by rw [unhide hSL], (unhide HX).below hW (Nat.le_refl _), unhide HSL, unhide HSM, hW⟩
    apply hP
    repeat (first | with_reducible exact unhide HB | refine Below.setCell ?_ (by first | (simp; done) | (simp; omega)) _ | refine Below.trans ?_ ((bl_drew _).mono (by first | (simp; done) | (simp; omega))))
end Go.Proofs.Ytadgiccfjppnfaa
