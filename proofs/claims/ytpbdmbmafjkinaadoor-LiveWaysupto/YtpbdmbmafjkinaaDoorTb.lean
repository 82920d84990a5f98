/-
  The document's table: of each block rows, of each place a row of booleans, all apart.
-/
import Derived.Test.YtpbdmbmafjkinaaDoorRu
namespace Go.Proofs.YtpbdmbmafjkinaaDoor
open Go.RowKit
set_option linter.unusedVariables false
set_option linter.unusedSimpArgs false
set_option maxRecDepth 100000 in
set_option maxHeartbeats 3200000 in
theorem quiet_any {w : World} {x : RIn} {op code dst n pc need : Int} {aa ea : Option Addr} {al ac el ec : Nat} (h1 : op = x.op) :
    Calls Tryd.prog 61 #[.agg #[.int .i64 op, .int .i64 code, .int .i64 dst, .slice aa al ac, .int .i64 n, .int .i64 pc, .int .i64 need, .slice ea el ec]] w fun e w' => e = .returned (.bool (quiet x)) ∧ Below w.heap.size w w' := by
  obtain ⟨W, hW⟩ : ∃ W, Hid (w.alloc (.cells #[.int .i64 op, .int .i64 code, .int .i64 dst, .slice aa al ac, .int .i64 n, .int .i64 pc, .int .i64 need, .slice ea el ec] 51) = W) := ⟨_, hide rfl⟩
  have HW : Hid (Below w.heap.size w W) := by rw [← unhide hW]; exact box1n w _
  have hn := heap_alloc_new w (.cells #[.int .i64 op, .int .i64 code, .int .i64 dst, .slice aa al ac, .int .i64 n, .int .i64 pc, .int .i64 need, .slice ea el ec] 51)
  rw [unhide hW] at hn
  have c0 := (blk_cells hn).1 0
  have cl := (blk_cells hn).2.2
  simp at c0
  have hW' := unhide hW
  clear hn
  by_cases o1 : op = 1
  · have hi : quiet x = true := by simp [quiet, ← h1, o1]
    rw [hi]
    subst o1
    clear h1 hi
    go_enter Tryd.func61, Tryd.ntmps61
    go_wp2_with fail
    go_ret
    exact ⟨rfl, unhide HW⟩
  · by_cases o2 : op = 2
    · have hi : quiet x = true := by simp [quiet, ← h1, o2]
      rw [hi]
      subst o2
      clear h1 hi o1
      go_enter Tryd.func61, Tryd.ntmps61
      go_wp2_with fail
      go_ret
      exact ⟨rfl, unhide HW⟩
    · have hi : quiet x = false := by simp [quiet, ← h1, o1, o2]
      rw [hi]
      have e1 : (op == 1) = false := by simp [o1]
      have e2 : (op == 2) = false := by simp [o2]
      have e3 : decide (op = 1) = false := by simp [o1]
      have e4 : decide (op = 2) = false := by simp [o2]
      clear h1 hi o1 o2
      go_enter Tryd.func61, Tryd.ntmps61
      go_wp2_with fail
      go_ret
      exact ⟨rfl, unhide HW⟩
/-- A row of 512 booleans. -/
def rowB (M : Nat → Bool) : List Bool := (List.range 512).map M
theorem rowB_len (M : Nat → Bool) : (rowB M).length = 512 := by simp [rowB]
theorem rowB_at (M : Nat → Bool) {r : Nat} (h : r < 512) : (rowB M)[r]? = some (M r) := by simp [rowB, h]
def BS (w : World) (M : Nat → Bool) (x : Value) : Prop := Ro w 1 x 512 (flt enBo (rowB M))
theorem BS.read {w : World} {M : Nat → Bool} {x : Value} (h : BS w M x) : ∃ g go gc, x = .slice (some ⟨g, go, none⟩) 512 gc ∧ g < w.heap.size ∧ ∀ r, r < 512 → w.cell? ⟨g, go + r, none⟩ = some (.bool (M r)) ∧ w.frozen? ⟨g, go + r, none⟩ = false := by
  obtain ⟨g, go, gc, e, h1, h2, hg, hc⟩ := Ro.full h (by omega)
  refine ⟨g, go, gc, e, hg, fun r hr => ⟨?_, Ro.free h e _⟩⟩
  have h3 := hc r (by omega)
  rw [h3]
  have := flt_at zBo (rowB_at M hr) 0 (by omega)
  simpa [enBo] using this
theorem rowB_set {M : Nat → Bool} {r : Nat} (hr : r < 512) : (rowB M).set r true = rowB (pbit M r true) := by
  refine List.ext_getElem? (fun i => ?_)
  by_cases h : i < 512
  · rw [rowB_at _ h]
    by_cases e : i = r
    · subst e; rw [List.getElem?_set_self (by rw [rowB_len]; exact hr)]; simp [pbit]
    · rw [List.getElem?_set_ne (fun q => e q.symm), rowB_at _ h]; simp [pbit, e]
  · rw [List.getElem?_eq_none (by simp [rowB_len]; omega), List.getElem?_eq_none (by rw [rowB_len]; omega)]
theorem BS.put {w : World} {M : Nat → Bool} {g go gc : Nat} (h : BS w M (.slice (some ⟨g, go, none⟩) 512 gc)) {r : Nat} (hr : r < 512) : BS (w.setCell ⟨g, go + r, none⟩ (.bool true)) (pbit M r true) (.slice (some ⟨g, go, none⟩) 512 gc) := by
  obtain ⟨r1, r2⟩ := Ro.putAt zBo h (rowB_len M) rfl hr true
  have e2 : w.setCells g (go + r * 1) (enBo true) = w.setCell ⟨g, go + r, none⟩ (.bool true) := by simp [enBo, World.setCells]
  rw [e2, rowB_set hr] at r1
  exact r1
set_option maxRecDepth 100000 in
set_option maxHeartbeats 3200000 in
theorem in_any {w : World} {M : Nat → Bool} {x : Value} (h : BS w M x) (hs : Sup M) (d : Int) : Calls Tryd.prog 62 #[x, .int .i64 d] w fun e w' => e = .returned (.bool (inS M d)) ∧ ∃ m, w' = w.drewN m := by
  obtain ⟨g, go, gc, rfl, hg, hc⟩ := h.read
  by_cases d0 : 0 ≤ d
  · obtain ⟨r, rfl⟩ : ∃ r : Nat, d = (r : Int) := ⟨d.toNat, by omega⟩
    by_cases hr : r < 512
    · have hi : inS M (r : Int) = M r := by simp [inS]
      rw [hi]
      obtain ⟨c1, c2⟩ := hc r hr
      have d1 : (r : Int) < 512 := by omega
      clear hi hc
      go_enter Tryd.func62, Tryd.ntmps62
      go_wp2_with fail
      go_ret
      exact ⟨rfl, 0, rfl⟩
    · have hi : inS M (r : Int) = false := by simp [inS, hs r (by omega)]
      rw [hi]
      have d1 : ¬ (r : Int) < 512 := by omega
      clear hi hc
      go_enter Tryd.func62, Tryd.ntmps62
      go_wp2_with fail
      go_ret
      exact ⟨rfl, 0, rfl⟩
  · have hi : inS M d = false := by simp [inS, d0]
    rw [hi]
    clear hi hc
    go_enter Tryd.func62, Tryd.ntmps62
    go_wp2_with fail
    go_ret
    exact ⟨rfl, 0, rfl⟩
theorem askL_hit {l : List Op} {i r : Nat} {o : Op} (h : l[i]? = some o) (hk : o.k = 0) (hn : o.n = (r : Int)) : askL l r = true := List.any_eq_true.2 ⟨o, List.mem_of_getElem? h, by simp [hk, hn]⟩
theorem askL_take {l : List Op} {i r : Nat} {o : Op} (h : l[i]? = some o) (hi : askL (l.take i) r = false) (hk : ¬ (o.k = 0 ∧ o.n = (r : Int))) : askL (l.take (i + 1)) r = false := by
  rw [take_push h]
  unfold askL at hi ⊢
  rw [List.any_append, hi]
  simp only [List.any_cons, List.any_nil, Bool.or_false, Bool.false_or]
  exact decide_eq_false hk
theorem anyE_hit {l : List Sh} {i r : Nat} {f : Sh} (h : l[i]? = some f) (hk : askL f.sl r = true) : l.any (fun s => askL s.sl r) = true := List.any_eq_true.2 ⟨f, List.mem_of_getElem? h, hk⟩
theorem anyE_take {l : List Sh} {i r : Nat} {f : Sh} (h : l[i]? = some f) (hi : (l.take i).any (fun s => askL s.sl r) = false) (hk : askL f.sl r = false) : (l.take (i + 1)).any (fun s => askL s.sl r) = false := by
  rw [take_push h, List.any_append, hi]
  simp [hk]
structure AX (w : World) (aa : Option Addr) (AL ac : Nat) (ea : Option Addr) (EL ec : Nat) (X : World) : Prop where
  b : Below w.heap.size w X
  c3 : X.cell? ⟨w.heap.size, 3, none⟩ = some (.slice aa AL ac)
  c7 : X.cell? ⟨w.heap.size, 7, none⟩ = some (.slice ea EL ec)
  l : w.heap.size < X.heap.size
theorem AX.on {w X Y : World} {aa ea : Option Addr} {AL ac EL ec : Nat} (h : AX w aa AL ac ea EL ec X) (f : Below X.heap.size X Y) : AX w aa AL ac ea EL ec Y :=
  ⟨h.b.trans (f.mono h.b.size), (f.cell (p := ⟨w.heap.size, 3, none⟩) h.l).trans h.c3, (f.cell (p := ⟨w.heap.size, 7, none⟩) h.l).trans h.c7, Nat.lt_of_lt_of_le h.l f.size⟩
set_option maxRecDepth 100000 in
set_option maxHeartbeats 6400000 in
theorem asks_any {w : World} {D : Nat → Prop} {x : RIn} {q : InR} (h : InP D w x q) (r : Nat) (hA : x.args.length ≤ 1048576) (hE : x.ex.length ≤ 1048576) (hS : ∀ s ∈ x.ex, s.sl.length ≤ 1048576) :
    Calls Tryd.prog 60 #[inV q, .int .i64 (r : Int)] w fun e w' => e = .returned (.bool (askE x r)) ∧ Below w.heap.size w w' := by
  obtain ⟨op, code, dst, av, n, pc, need, ev⟩ := q
  obtain ⟨h1, h2, h3, h4, h5, h6, h7, h8⟩ := h
  simp only at h1 h2 h3 h4 h5 h6 h7 h8
  subst h1 h2 h3 h4 h5 h6
  unfold inV
  simp only
  obtain ⟨aa, ac, rfl, ha1, ha2⟩ := h7.1.shape
  obtain ⟨ea, ec, rfl, he1, he2⟩ := NV.shape h8
  obtain ⟨AL, hAL⟩ : ∃ z, Hid (x.args.length = z) := ⟨_, hide rfl⟩
  obtain ⟨EL, hEL⟩ : ∃ z, Hid (x.ex.length = z) := ⟨_, hide rfl⟩
  obtain ⟨W, hW⟩ : ∃ W, Hid (w.alloc (.cells #[.int .i64 x.op, .int .i64 x.code, .int .i64 x.dst, .slice aa x.args.length ac, .int .i64 x.n, .int .i64 x.pc, .int .i64 x.need, .slice ea x.ex.length ec] 51) = W) := ⟨_, hide rfl⟩
  have HW : Hid (Below w.heap.size w W) := by rw [← unhide hW]; exact box1n w _
  have hn := heap_alloc_new w (.cells #[.int .i64 x.op, .int .i64 x.code, .int .i64 x.dst, .slice aa x.args.length ac, .int .i64 x.n, .int .i64 x.pc, .int .i64 x.need, .slice ea x.ex.length ec] 51)
  rw [unhide hW] at hn
  have c3 := (blk_cells hn).1 3
  have c7 := (blk_cells hn).1 7
  have cl := (blk_cells hn).2.2
  simp at c3 c7
  have H7 := hide h7
  have H8 := hide h8
  have HS := hide hS
  rw [unhide hAL] at c3 ha1 hA ⊢
  rw [unhide hEL] at c7 he1 hE ⊢
  rw [unhide hAL, unhide hEL] at hW
  have hW' := unhide hW
  unfold maxLen at ha2 he2
  have HAX : Hid (AX w aa AL ac ea EL ec W) := ⟨unhide HW, c3, c7, cl⟩
  clear h7 h8 hn hS HW
  go_enter Tryd.func60, Tryd.ntmps60
  go_wp2_with fail
  clear c3 c7 cl
  go_loopg [5] AL (fun gg t5 wr => ∃ i : Nat, Hid (i + gg = AL) ∧ t5 = .int .i64 (i : Int) ∧ Hid (AX w aa AL ac ea EL ec wr ∧ askL (x.args.take i) r = false))
  case atStart => exact ⟨0, by unfold Hid; omega, rfl, unhide HAX, by simp [askL]⟩
  case round =>
    obtain ⟨i, hi, rfl, hG⟩ := hrel
    obtain ⟨hX, hF⟩ := unhide hG
    have HX := hide hX
    have HF := hide hF
    obtain ⟨hb0, c3, c7, cl⟩ := hX
    clear hG hF HAX hW' hW
    by_cases hlt : i < AL
    · have i0 : (0 : Int) ≤ (i : Int) := by omega
      have i1 : (i : Int) < (AL : Int) := by omega
      obtain ⟨o, ho⟩ : ∃ o, x.args[i]? = some o := ⟨_, List.getElem?_eq_getElem (by rw [unhide hAL]; exact hlt)⟩
      obtain ⟨b, off, cap, e, _, _, hb, hc⟩ := (unhide H7).1.elem zO ho
      rw [unhide hAL] at e
      cases e
      have k0 : wr.cell? ⟨b, off + i * 2, none⟩ = some (.int .i64 o.k) := (hb0.cell (p := ⟨b, off + i * 2, none⟩) hb).trans (hc 0 _ rfl)
      have k1 : wr.cell? ⟨b, off + i * 2 + 1, none⟩ = some (.int .i64 o.n) := (hb0.cell (p := ⟨b, off + i * 2 + 1, none⟩) hb).trans (hc 1 _ rfl)
      have kl : b < wr.heap.size := Nat.lt_of_lt_of_le hb hb0.size
      have HO := hide ho
      clear hc ho
      by_cases hk : o.k = 0
      · have hk0 : (o.k == 0) = true := by simp [hk]
        have hkd : decide (o.k = 0) = true := by simp [hk]
        by_cases hr : o.n = (r : Int)
        · have hr0 : (o.n == (r : Int)) = true := by simp [hr]
          have hrd : decide (o.n = (r : Int)) = true := by simp [hr]
          have HA2 : Hid (askE x r = true) := by unfold Hid askE; rw [askL_hit (unhide HO) hk hr]; rfl
          clear hk hr
          go_wp2_with fail
          first | go_ret | go_end0
          exact ⟨by rw [unhide HA2]; rfl, hb0⟩
        · have hr0 : (o.n == (r : Int)) = false := by simp [hr]
          have hrd : decide (o.n = (r : Int)) = false := by simp [hr]
          have HF2 : Hid (AX w (some ⟨b, off, none⟩) AL ac ea EL ec wr ∧ askL (x.args.take (i + 1)) r = false) := ⟨unhide HX, askL_take (unhide HO) (unhide HF) (fun q => hr q.2)⟩
          clear hk hr
          go_wp2_with fail
          go_roundg (gk - 1)
          case measure => have := unhide hi; omega
          case rel => exact ⟨i + 1, by have := unhide hi; unfold Hid; omega, by go_num, HF2⟩
      · have hk0 : (o.k == 0) = false := by simp [hk]
        have hkd : decide (o.k = 0) = false := by simp [hk]
        have HF2 : Hid (AX w (some ⟨b, off, none⟩) AL ac ea EL ec wr ∧ askL (x.args.take (i + 1)) r = false) := ⟨unhide HX, askL_take (unhide HO) (unhide HF) (fun q => hk q.1)⟩
        clear hk
        go_wp2_with fail
        go_roundg (gk - 1)
        case measure => have := unhide hi; omega
        case rel => exact ⟨i + 1, by have := unhide hi; unfold Hid; omega, by go_num, HF2⟩
    · have hiL : AL = i := by have := unhide hi; omega
      have HFA : Hid (askL x.args r = false) := by have := unhide HF; rw [List.take_of_length_le (by rw [unhide hAL]; omega)] at this; exact this
      have i1 : ¬ (i : Int) < (AL : Int) := by omega
      clear hiL HF
      go_wp2_with fail
      clear c3 c7 cl hb0 i1 hlt
      go_loopg [6] EL (fun gg t6 wr => ∃ i : Nat, Hid (i + gg = EL) ∧ t6 = .int .i64 (i : Int) ∧ Hid (AX w aa AL ac ea EL ec wr ∧ (x.ex.take i).any (fun s => askL s.sl r) = false))
      case atStart => exact ⟨0, by unfold Hid; omega, rfl, unhide HX, by simp⟩
      case round =>
        obtain ⟨i, hi, rfl, hG⟩ := hrel
        obtain ⟨hX, hF⟩ := unhide hG
        clear HX
        have HX := hide hX
        have HF := hide hF
        obtain ⟨hb0, c3, c7, cl⟩ := hX
        clear hG hF
        by_cases hlt : i < EL
        · have i0 : (0 : Int) ≤ (i : Int) := by omega
          have i1 : (i : Int) < (EL : Int) := by omega
          obtain ⟨f, hf⟩ : ∃ f, x.ex[i]? = some f := ⟨_, List.getElem?_eq_getElem (by rw [unhide hEL]; exact hlt)⟩
          obtain ⟨g, eo, ecp, q, e, hg, hDg, hP, hcell⟩ := NV.at zSh (unhide H8) hf
          rw [unhide hEL] at e
          cases e
          obtain ⟨rfn, rpc, rv⟩ := q
          obtain ⟨p1, p2, p3⟩ := hP
          simp only at p1 p2 p3
          obtain ⟨sa, sc, rfl, hs1, hs2⟩ := p3.1.shape
          unfold maxLen at hs2
          have HP3 := hide p3
          have HFF := hide hf
          have HSL := unhide HS f (List.mem_of_getElem? hf)
          have HCL : Hid (∀ V, Below w.heap.size w V → V.cell? ⟨g, eo + i * 3 + 2, none⟩ = some (.slice sa f.sl.length sc) ∧ g < V.heap.size) := fun V hV => ⟨(hV.cell (p := ⟨g, eo + i * 3 + 2, none⟩) hg).trans (hcell 2 _ rfl), Nat.lt_of_lt_of_le hg hV.size⟩
          obtain ⟨SL, hSL⟩ : ∃ z, Hid (f.sl.length = z) := ⟨_, hide rfl⟩
          rw [unhide hSL] at HCL hs1 HSL
          clear hcell p3 hf
          go_wp2_with fail
          clear c3 c7 cl hb0
          go_loopg [7] SL (fun gg t7 wr => ∃ j : Nat, Hid (j + gg = SL) ∧ t7 = .int .i64 (j : Int) ∧ Hid (AX w aa AL ac (some ⟨g, eo, none⟩) EL ec wr ∧ askL (f.sl.take j) r = false))
          case atStart => exact ⟨0, by unfold Hid; omega, rfl, unhide HX, by simp [askL]⟩
          case round =>
            obtain ⟨j, hj, rfl, hG⟩ := hrel
            obtain ⟨hX, hF2⟩ := unhide hG
            clear HX
            have HX := hide hX
            have HF2 := hide hF2
            obtain ⟨hb0, c3, c7, cl⟩ := hX
            obtain ⟨t1, t2⟩ := unhide HCL wr hb0
            clear hG hF2
            by_cases hjl : j < SL
            · have j0 : (0 : Int) ≤ (j : Int) := by omega
              have j1 : (j : Int) < (SL : Int) := by omega
              obtain ⟨o, ho⟩ : ∃ o, f.sl[j]? = some o := ⟨_, List.getElem?_eq_getElem (by rw [unhide hSL]; exact hjl)⟩
              obtain ⟨b, off, cap, e, _, _, hb, hc⟩ := (unhide HP3).1.elem zO ho
              rw [unhide hSL] at e
              cases e
              have k0 : wr.cell? ⟨b, off + j * 2, none⟩ = some (.int .i64 o.k) := (hb0.cell (p := ⟨b, off + j * 2, none⟩) hb).trans (hc 0 _ rfl)
              have k1 : wr.cell? ⟨b, off + j * 2 + 1, none⟩ = some (.int .i64 o.n) := (hb0.cell (p := ⟨b, off + j * 2 + 1, none⟩) hb).trans (hc 1 _ rfl)
              have kl : b < wr.heap.size := Nat.lt_of_lt_of_le hb hb0.size
              have HO := hide ho
              obtain ⟨W2, hW2⟩ : ∃ W2, Hid (wr.alloc (.cells #[.int .i64 o.k, .int .i64 o.n] 70) = W2) := ⟨_, hide rfl⟩
              have HB2 : Hid (Below wr.heap.size wr W2) := by rw [← unhide hW2]; exact box1n wr _
              have hn2 := heap_alloc_new wr (.cells #[.int .i64 o.k, .int .i64 o.n] 70)
              rw [unhide hW2] at hn2
              have d0 := (blk_cells hn2).1 0
              have d1 := (blk_cells hn2).1 1
              simp at d0 d1
              have hW2' := unhide hW2
              have HX2 := hide ((unhide HX).on (unhide HB2))
              clear hc ho hn2
              by_cases hk : o.k = 0
              · have hk0 : (o.k == 0) = true := by simp [hk]
                have hkd : decide (o.k = 0) = true := by simp [hk]
                by_cases hr : o.n = (r : Int)
                · have hr0 : (o.n == (r : Int)) = true := by simp [hr]
                  have hrd : decide (o.n = (r : Int)) = true := by simp [hr]
                  have HA2 : Hid (askE x r = true) := by unfold Hid askE; rw [anyE_hit (unhide HFF) (askL_hit (unhide HO) hk hr)]; simp
                  clear hk hr
                  go_wp2_with fail
                  first | go_ret | go_end0
                  exact ⟨by rw [unhide HA2]; rfl, (unhide HX2).1⟩
                · have hr0 : (o.n == (r : Int)) = false := by simp [hr]
                  have hrd : decide (o.n = (r : Int)) = false := by simp [hr]
                  have HF3 : Hid (AX w aa AL ac (some ⟨g, eo, none⟩) EL ec W2 ∧ askL (f.sl.take (j + 1)) r = false) := ⟨unhide HX2, askL_take (unhide HO) (unhide HF2) (fun q => hr q.2)⟩
                  clear hk hr
                  go_wp2_with fail
                  go_roundg (gk - 1)
                  case measure => have := unhide hj; omega
                  case rel => exact ⟨j + 1, by have := unhide hj; unfold Hid; omega, by go_num, HF3⟩
              · have hk0 : (o.k == 0) = false := by simp [hk]
                have hkd : decide (o.k = 0) = false := by simp [hk]
                have HF3 : Hid (AX w aa AL ac (some ⟨g, eo, none⟩) EL ec W2 ∧ askL (f.sl.take (j + 1)) r = false) := ⟨unhide HX2, askL_take (unhide HO) (unhide HF2) (fun q => hk q.1)⟩
                clear hk
                go_wp2_with fail
                go_roundg (gk - 1)
                case measure => have := unhide hj; omega
                case rel => exact ⟨j + 1, by have := unhide hj; unfold Hid; omega, by go_num, HF3⟩
            · have hjS : SL = j := by have := unhide hj; omega
              have HF3 : Hid (AX w aa AL ac (some ⟨g, eo, none⟩) EL ec wr ∧ (x.ex.take (i + 1)).any (fun s => askL s.sl r) = false) := ⟨unhide HX, anyE_take (unhide HFF) (unhide HF) (by have := unhide HF2; rw [List.take_of_length_le (by rw [unhide hSL]; omega)] at this; exact this)⟩
              have j1 : ¬ (j : Int) < (SL : Int) := by omega
              clear hjS HF2
              go_wp2_with fail
              go_roundg (EL - (i + 1))
              case measure => have := unhide hi; omega
              case rel => exact ⟨i + 1, by have := unhide hi; unfold Hid; omega, by go_num, HF3⟩
        · have hiE : EL = i := by have := unhide hi; omega
          have HA2 : Hid (askE x r = false) := by
            unfold Hid askE
            have h2 := unhide HF
            rw [List.take_of_length_le (by rw [unhide hEL]; omega)] at h2
            rw [unhide HFA, h2]; rfl
          have i1 : ¬ (i : Int) < (EL : Int) := by omega
          clear hiE HF
          go_wp2_with fail
          first | go_ret | go_end0
          exact ⟨by rw [unhide HA2]; rfl, hb0⟩

set_option linter.unusedVariables false
set_option linter.unusedSimpArgs false
theorem set_same {α : Type} {l : List α} {i : Nat} {x : α} (h : l[i]? = some x) : l.set i x = l := by
  refine List.ext_getElem? (fun j => ?_)
  by_cases e : j = i
  · subst e; rw [List.getElem?_set_self (List.getElem?_eq_some_iff.1 h).1, h]
  · rw [List.getElem?_set_ne (fun q => e q.symm)]
def IB (w : World) (M : Rset) (x : Value) : Prop := BS w M x
theorem stayIB : Stays IB blI := fun Q w w' u x h f hk => Ro.fr h f hk
abbrev T2 := Value × List Value
def en2 (t : T2) : List Value := [t.1]
theorem z2 : ∀ p, (en2 p).length = 1 := fun _ => rfl
def bl2 (t : T2) (k : Nat) : Prop := t.1.ownBlock = some k ∨ ∃ x ∈ t.2, blI x k
def P2 (Z : Nat → Prop) (w : World) (us : List Rset) (t : T2) : Prop := OW enV 1 IB blI Z w t.1 us t.2
theorem stay2 (Z : Nat → Prop) : Stays (P2 Z) bl2 := fun Q w w' u x h f hk => OW.fr stayIB h f (fun k _ hb e => hk k hb e)
abbrev TM (Z : Nat → Prop) := OW en2 1 (P2 Z) bl2 Z
theorem TM.on {Z : Nat → Prop} {X Y : World} {v : Value} {uss : List (List Rset)} {ts : List T2} (h : TM Z X v uss ts) (f : Below X.heap.size X Y) : TM Z Y v uss ts := OW.below (stay2 Z) h f
theorem TM.mono {Z Z' : Nat → Prop} {X : World} {v : Value} {uss : List (List Rset)} {ts : List T2} (h : TM Z X v uss ts) (hz : ∀ k, Z k → Z' k) : TM Z' X v uss ts := by
  have h2 : OW en2 1 (P2 Z') bl2 Z X v uss ts := OW.imp h (fun u x hp => OW.mono hp (fun k _ hk => hz k hk))
  exact OW.mono h2 (fun k _ hk => hz k hk)
/-- One place of it. -/
theorem TM.read {Z : Nat → Prop} {X : World} {v : Value} {uss : List (List Rset)} {ts : List T2} (h : TM Z X v uss ts) {b i : Nat} {us : List Rset} {M : Rset} (hb : uss[b]? = some us) (hi : us[i]? = some M) :
    ∃ va vo vc ra ro rc g go gc, v = .slice (some ⟨va, vo, none⟩) uss.length vc ∧ va < X.heap.size ∧ X.cell? ⟨va, vo + b, none⟩ = some (.slice (some ⟨ra, ro, none⟩) us.length rc) ∧ ra < X.heap.size ∧ X.cell? ⟨ra, ro + i, none⟩ = some (.slice (some ⟨g, go, none⟩) 512 gc) ∧ g < X.heap.size ∧ BS X M (.slice (some ⟨g, go, none⟩) 512 gc) ∧ Z g ∧
    (∀ r, r < 512 → TM Z (X.setCell ⟨g, go + r, none⟩ (.bool true)) v (uss.set b (us.set i (pbit M r true))) ts) := by
  have hbl := (List.getElem?_eq_some_iff.1 hb).1
  obtain ⟨t, ht⟩ : ∃ t, ts[b]? = some t := ⟨_, List.getElem?_eq_getElem (by rw [h.len]; exact hbl)⟩
  have hP := h.el b us t hb ht
  have hil := (List.getElem?_eq_some_iff.1 hi).1
  obtain ⟨x, hx⟩ : ∃ x, t.2[i]? = some x := ⟨_, List.getElem?_eq_getElem (by rw [hP.len]; exact hil)⟩
  have hB : BS X M x := hP.el i M x hi hx
  have hr1 := h.row
  rw [← h.len] at hr1
  obtain ⟨va, vo, vc, e1, _, _, hva, hvc⟩ := (Rx.of_ro hr1).elem z2 ht
  have hr2 := hP.row
  rw [← hP.len] at hr2
  obtain ⟨ra, ro, rc, e2, _, _, hra, hrc⟩ := (Rx.of_ro hr2).elem zV hx
  obtain ⟨g, go, gc, e3, hg, hgc⟩ := hB.read
  have c1 := hvc 0 _ rfl
  have c2 := hrc 0 _ rfl
  simp only [Nat.mul_one, Nat.add_zero] at c1 c2
  rw [e2, hP.len] at c1
  subst e3
  have hgz := hP.eb i _ g hx rfl
  refine ⟨va, vo, vc, ra, ro, rc, g, go, gc, by rw [e1, h.len], hva, c1, hra, c2, hg, hB, hgz.1, fun r hr => ?_⟩
  have f : Fr (fun k => k = g) X (X.setCell ⟨g, go + r, none⟩ (.bool true)) := Fr.setCell (S := fun k => k = g) (Fr.refl _ X) ⟨g, go + r, none⟩ (.inr rfl) _
  have hB2 := hB.put hr
  have hts : t.2.set i (.slice (some ⟨g, go, none⟩) 512 gc) = t.2 := set_same hx
  have hg2 : bl2 t g := .inr ⟨_, List.mem_of_getElem? hx, rfl⟩
  have hg3 := h.eb b t g ht hg2
  have o2 : OW enV 1 IB blI Z (X.setCell ⟨g, go + r, none⟩ (.bool true)) t.1 (us.set i (pbit M r true)) t.2 := by
    have q := OW.setX stayIB hP (i := i) (u := pbit M r true) (x := .slice (some ⟨g, go, none⟩) 512 gc) hx f (fun k hk => .inr (by rw [hk]; rfl)) (by rw [hts]; exact hP.row.fr f (fun k hk e => by subst e; exact hgz.2.2 hk)) hB2 (fun k hk => ⟨(hP.eb i _ k hx hk).1, by have := (hP.eb i _ k hx hk).2.1; simpa [World.setCell] using this, (hP.eb i _ k hx hk).2.2⟩) (fun j z k hj hz hk => hP.ap i j _ z k (fun e => hj e.symm) hx hz hk)
    rw [hts] at q
    exact q
  have htt : ts.set b t = ts := set_same ht
  have q := OW.setX (stay2 Z) h (i := b) (u := us.set i (pbit M r true)) (x := t) ht f (fun k hk => .inr (by rw [hk]; exact hg2)) (by rw [htt]; exact h.row.fr f (fun k hk e => by subst e; exact hg3.2.2 hk)) o2 (fun k hk => ⟨(h.eb b t k ht hk).1, by have := (h.eb b t k ht hk).2.1; simpa [World.setCell] using this, (h.eb b t k ht hk).2.2⟩) (fun j z k hj hz hk => h.ap b j t z k (fun e => hj e.symm) ht hz hk)
  rw [htt] at q
  exact q
/-- A block of a code in memory. -/
theorem BksV.blk {w : World} {D : Nat → Prop} {bl : List Bk} {a : Option Addr} {N c : Nat} (h : BksV D w bl (.slice a N c)) {b : Nat} {u : Bk} (hu : bl[b]? = some u) :
    ∃ vb vo ia ic na nc, a = some ⟨vb, vo, none⟩ ∧ vb < w.heap.size ∧ InsV D w u.ins (.slice ia u.ins.length ic) ∧ NxV D w u.nx (.slice na u.nx.length nc) ∧ ic ≤ maxLen ∧ nc ≤ maxLen ∧ u.ins.length ≤ ic ∧ u.nx.length ≤ nc ∧
    ∀ X, Below w.heap.size w X → vb < X.heap.size ∧ X.cell? ⟨vb, vo + b * 3, none⟩ = some (.int .i64 u.pc) ∧ X.cell? ⟨vb, vo + b * 3 + 1, none⟩ = some (.slice ia u.ins.length ic) ∧ X.cell? ⟨vb, vo + b * 3 + 2, none⟩ = some (.slice na u.nx.length nc) := by
  obtain ⟨vb, vo, cap, r, e, hb, hDb, hP, hcell⟩ := NV.at zBk h hu
  obtain ⟨rpc, riv, rnv⟩ := r
  obtain ⟨p1, p2, p3⟩ := hP
  simp only at p1 p2 p3
  subst p1
  obtain ⟨ia, ic, rfl, hi1, hi2⟩ := NV.shape p2
  obtain ⟨na, nc, rfl, hn1, hn2⟩ := p3.1.shape
  refine ⟨vb, vo, ia, ic, na, nc, by cases e; rfl, hb, p2, p3, hi2, hn2, hi1, hn1, fun X hX => ⟨Nat.lt_of_lt_of_le hb hX.size, (hX.cell (p := ⟨vb, vo + b * 3, none⟩) hb).trans (hcell 0 _ rfl), (hX.cell (p := ⟨vb, vo + b * 3 + 1, none⟩) hb).trans (hcell 1 _ rfl), (hX.cell (p := ⟨vb, vo + b * 3 + 2, none⟩) hb).trans (hcell 2 _ rfl)⟩⟩
def F0 : Rset := fun _ => false
theorem rowB_zero : rowB F0 = List.replicate 512 false := by
  refine List.ext_getElem? (fun i => ?_)
  by_cases h : i < 512
  · rw [rowB_at _ h, List.getElem?_replicate, if_pos h]; rfl
  · rw [List.getElem?_eq_none (by rw [rowB_len]; omega), List.getElem?_eq_none (by rw [List.length_replicate]; omega)]
theorem BS.made (X : World) : BS (X.alloc (moB 512)) F0 (.slice (some ⟨X.heap.size, 0, none⟩) 512 512) := by
  have := made_ro enBo false (Value.bool false).cells 1 zBo (by decide) rfl X 4 512 (by unfold maxLen; omega)
  unfold BS
  rw [rowB_zero]
  exact this
theorem mk512 (W : World) : (Instr.makeSlice 42 (.int .i64 512) (.int .i64 512)).run Tryd.prog W = .ok (.slice (some ⟨W.heap.size, 0, none⟩) 512 512) (W.alloc (moB 512)) := mk72 (N := 512) (by omega) W
theorem inf72 : (Tryd.prog.info? 42).map (fun i => (i.zero, i.size, i.bytes)) = some (some (.slice none 0 0), 1, 24) := by kernel_rfl
theorem inf73 : (Tryd.prog.info? 41).map (fun i => (i.zero, i.size, i.bytes)) = some (some (.slice none 0 0), 1, 24) := by kernel_rfl
/-- One value is put behind a row of one's own. -/
theorem app73 {X : World} {v u : Value} {n : Nat} {xs : List Value} (h : Ro X 1 v n (flt enV xs)) (hu : u.oneCell' = true) (hn : n ≤ 4294967296) : ∃ va vc ya yc w1, v = .slice va n vc ∧ (Builtin.append_ #[41, 41] 41 #[.slice va n vc, .slice (some ⟨X.heap.size, 0, none⟩) 1 1]).run Tryd.prog (X.alloc (.cells #[u] 42)) = .ok (.slice ya (n + 1) yc) w1 ∧ Ro w1 1 (.slice ya (n + 1) yc) (n + 1) (flt enV xs ++ enV u) ∧ (X.alloc (.cells #[u] 42)).grownBy w1 v.ownBlock ∧ ((Value.slice ya (n + 1) yc).ownBlock = v.ownBlock ∨ (Value.slice ya (n + 1) yc).ownBlock = some (X.alloc (.cells #[u] 42)).heap.size) := by
  obtain ⟨va, vc, e, _, _⟩ := h.shape
  obtain ⟨i4, hi4, hz4, hs4, hb4⟩ := info_parts inf72
  obtain ⟨x', w1, hrun, r1, r2, r3⟩ := Ro.app (P := Tryd.prog) 41 41 42 i4 _ 1 24 Tryd.underlying41 hi4 hz4 hs4 hb4 rfl (by decide) (h.fr (Fr.of_below (S := fun _ => False) (box1n X (.cells #[u] 42))) (fun _ _ e => e)) ⟨X.heap.size, 0, none⟩ 1 1 (enV u) rfl (new_cells X _ _) (by intro y hy; simp only [enV, List.mem_cons, List.not_mem_nil, or_false] at hy; subst hy; exact hu) (by omega) (by unfold maxLen; omega) (by omega)
  obtain ⟨ya, yc, rfl, _, _⟩ := r1.shape
  exact ⟨va, vc, ya, yc, w1, e, by rw [← e]; exact hrun, r1, r2, r3⟩
theorem app48 {X : World} {v u : Value} {n : Nat} {xs : List T2} (h : Ro X 1 v n (flt en2 xs)) (hu : u.oneCell' = true) (hn : n ≤ 4294967296) : ∃ va vc ya yc w1, v = .slice va n vc ∧ (Builtin.append_ #[56, 56] 56 #[.slice va n vc, .slice (some ⟨X.heap.size, 0, none⟩) 1 1]).run Tryd.prog (X.alloc (.cells #[u] 41)) = .ok (.slice ya (n + 1) yc) w1 ∧ Ro w1 1 (.slice ya (n + 1) yc) (n + 1) (flt en2 xs ++ [u]) ∧ (X.alloc (.cells #[u] 41)).grownBy w1 v.ownBlock ∧ ((Value.slice ya (n + 1) yc).ownBlock = v.ownBlock ∨ (Value.slice ya (n + 1) yc).ownBlock = some (X.alloc (.cells #[u] 41)).heap.size) := by
  obtain ⟨va, vc, e, _, _⟩ := h.shape
  obtain ⟨i4, hi4, hz4, hs4, hb4⟩ := info_parts inf73
  obtain ⟨x', w1, hrun, r1, r2, r3⟩ := Ro.app (P := Tryd.prog) 56 56 41 i4 _ 1 24 (by kernel_rfl) hi4 hz4 hs4 hb4 rfl (by decide) (h.fr (Fr.of_below (S := fun _ => False) (box1n X (.cells #[u] 41))) (fun _ _ e => e)) ⟨X.heap.size, 0, none⟩ 1 1 [u] rfl (new_cells X _ _) (by intro y hy; simp only [List.mem_cons, List.not_mem_nil, or_false] at hy; subst hy; exact hu) (by omega) (by unfold maxLen; omega) (by omega)
  obtain ⟨ya, yc, rfl, _, _⟩ := r1.shape
  exact ⟨va, vc, ya, yc, w1, e, by rw [← e]; exact hrun, r1, r2, r3⟩
def rowsOf (u : Bk) : List Rset := List.replicate (u.ins.length + 1) F0
set_option maxRecDepth 100000 in
set_option maxHeartbeats 6400000 in
theorem nothing_any {w : World} {D : Nat → Prop} {fn regs : Int} {bl : List Bk} {v : Value} (h : BksV D w bl v) (hN : bl.length ≤ 1048576) (hi : ∀ u ∈ bl, u.ins.length ≤ 1048576) :
    Calls Tryd.prog 36 #[.agg #[.int .i64 fn, .int .i64 regs, v]] w fun e w' => ∃ tv ts, e = .returned tv ∧ Below w.heap.size w w' ∧ TM (fun k => w.heap.size ≤ k) w' tv (bl.map rowsOf) ts := by
  obtain ⟨va, vc, rfl, hv1, hv2⟩ := NV.shape h
  obtain ⟨N, hNN⟩ : ∃ z, Hid (bl.length = z) := ⟨_, hide rfl⟩
  have HV := hide h
  have HI := hide hi
  rw [unhide hNN] at hN hv1 HV ⊢
  unfold maxLen at hv2
  obtain ⟨W, hW⟩ : ∃ W, Hid (w.alloc (.cells #[.int .i64 fn, .int .i64 regs, .slice va N vc] 24) = W) := ⟨_, hide rfl⟩
  have HW : Hid (Below w.heap.size w W) := by rw [← unhide hW]; exact box1n w _
  have hn := heap_alloc_new w (.cells #[.int .i64 fn, .int .i64 regs, .slice va N vc] 24)
  rw [unhide hW] at hn
  have HBX := hide hn
  have hW' := unhide hW
  clear h hi hn
  have hmk := mk512
  obtain ⟨MO, hMO⟩ : ∃ z, Hid (moB 512 = z) := ⟨_, hide rfl⟩
  rw [unhide hMO] at hmk
  go_enter Tryd.func36, Tryd.ntmps36
  go_wp2_with fail
  go_loopg [4, 3] N (fun gg t4 t3 wr => ∃ (b : Nat) (ta : Option Addr) (tc : Nat) (ts : List T2), Hid (b + gg = N) ∧ t4 = .int .i64 (b : Int) ∧ t3 = .slice ta b tc ∧ Hid (Below W.heap.size W wr ∧ TM (fun k => W.heap.size ≤ k) wr (.slice ta b tc) ((bl.take b).map rowsOf) ts))
  case atStart => exact ⟨0, none, 0, [], by unfold Hid; omega, rfl, rfl, Below.refl _ _, by simpa using OW.nil W⟩
  case round =>
    obtain ⟨b, ta, tc, ts, hb, rfl, rfl, hG⟩ := hrel
    obtain ⟨hBW, hTM⟩ := unhide hG
    have HT := hide hTM
    have hbx := (hBW.block _ (Array.getElem?_eq_some_iff.1 (unhide HBX)).1).trans (unhide HBX)
    have c2 := (blk_cells hbx).1 2
    have cl := (blk_cells hbx).2.2
    simp at c2
    have HBW := hide hBW
    clear hG hTM hbx hW' hW
    by_cases hlt : b < N
    · have b0 : (0 : Int) ≤ (b : Int) := by omega
      have b1 : (b : Int) < (N : Int) := by omega
      obtain ⟨u, hu⟩ : ∃ u, bl[b]? = some u := ⟨_, List.getElem?_eq_getElem (by rw [unhide hNN]; exact hlt)⟩
      obtain ⟨vb, vo, ia, ic, na, nc, ea, hvb, _, _, hic, _, hicl, _, hcc⟩ := (unhide HV).blk hu
      subst ea
      unfold maxLen at hic
      have HCC := hide hcc
      have HU := hide hu
      have hui := unhide HI u (List.mem_of_getElem? hu)
      obtain ⟨n, hnn⟩ : ∃ z, Hid (u.ins.length = z) := ⟨_, hide rfl⟩
      rw [unhide hnn] at HCC hicl hui
      clear hcc hu
      go_wp2_with fail
      clear c2 cl
      obtain ⟨WB, rfl⟩ : ∃ z, z = wr := ⟨_, rfl⟩
      go_loopg [6, 5] (n + 1) (fun gg t6 t5 wr => ∃ (i : Nat) (ra : Option Addr) (rc : Nat) (xs : List Value), Hid (i + gg = n + 1) ∧ t6 = .int .i64 (i : Int) ∧ t5 = .slice ra i rc ∧ Hid (Below WB.heap.size WB wr ∧ OW enV 1 IB blI (fun k => WB.heap.size ≤ k) wr (.slice ra i rc) (List.replicate i F0) xs))
      case atStart => exact ⟨0, none, 0, [], by unfold Hid; omega, rfl, rfl, Below.refl _ _, by simpa using OW.nil WB⟩
      case round =>
        obtain ⟨i, ra, rc, xs, hi, rfl, rfl, hG⟩ := hrel
        obtain ⟨hB2, hOW⟩ := unhide hG
        have hWw : Below W.heap.size W wr := (unhide HBW).trans (hB2.mono (unhide HBW).size)
        have hww : Below w.heap.size w wr := (unhide HW).trans (hWw.mono (unhide HW).size)
        have hbx := (hWw.block _ (Array.getElem?_eq_some_iff.1 (unhide HBX)).1).trans (unhide HBX)
        have c2 := (blk_cells hbx).1 2
        have cl := (blk_cells hbx).2.2
        simp at c2
        obtain ⟨t0, _, t1, _⟩ := unhide HCC wr hww
        have HB2 := hide hB2
        have HOW := hide hOW
        clear hG hbx hB2 hOW hWw hww
        have i0 : (0 : Int) ≤ (i : Int) := by omega
        by_cases hin : i ≤ n
        · have i1 : (i : Int) ≤ (n : Int) := by omega
          have hro := ((unhide HOW).row).fr (Fr.of_below (S := fun _ => False) (box1n wr MO)) (fun _ _ e => e)
          rw [List.length_replicate] at hro
          obtain ⟨xa, xc, ya, yc, w1, e1, a1, a2, a3, a4⟩ := app73 (u := .slice (some ⟨wr.heap.size, 0, none⟩) 512 512) hro rfl (by omega)
          cases e1
          rw [World.size_alloc] at a1
          have HRUN := hide a1
          have HG2 : Hid (Below WB.heap.size WB w1 ∧ OW enV 1 IB blI (fun k => WB.heap.size ≤ k) w1 (.slice ya (i + 1) yc) (List.replicate (i + 1) F0) (xs ++ [.slice (some ⟨wr.heap.size, 0, none⟩) 512 512])) := by
            have hm : IB ((wr.alloc MO).alloc (.cells #[.slice (some ⟨wr.heap.size, 0, none⟩) 512 512] 42)) F0 (.slice (some ⟨wr.heap.size, 0, none⟩) 512 512) := by
              have q := BS.made wr
              rw [unhide hMO] at q
              exact Ro.fr q (Fr.of_below (S := fun _ => False) (box1n _ _)) (fun _ _ e => e)
            obtain ⟨o1, o2⟩ := OW.push stayIB (unhide HOW) (bl_two wr _ _) hm (fun k hk => by have := own_eq hk; subst this; exact ⟨Nat.le_refl _, by simp only [World.size_alloc]; omega⟩) (fun k hk => Nat.le_trans (unhide HB2).size hk) a2 (by rw [List.length_replicate]) a3 a4
            refine ⟨(unhide HB2).trans (o2.below (unhide HB2).size (fun k hk e => by have := (unhide HOW).rb k e; omega)), ?_⟩
            rw [List.replicate_succ']
            exact o1
          clear hro a1 a2 a3 a4 HOW
          go_wp2_with (first | (at_builtin; refine wpList_appRunC rfl _ _ rfl rfl rfl (unhide HRUN) ?_))
          go_roundg (gk - 1)
          case measure => have := unhide hi; omega
          case rel => exact ⟨i + 1, ya, yc, _, by have := unhide hi; unfold Hid; omega, by go_num, rfl, HG2⟩
        · have hin2 : i = n + 1 := by have := unhide hi; omega
          subst hin2
          have i1 : ¬ ((n + 1 : Nat) : Int) ≤ (n : Int) := by omega
          have hTB := TM.on (unhide HT) (unhide HB2)
          have hlen : (List.map rowsOf (List.take b bl)).length = b := by rw [List.length_map, List.length_take, unhide hNN]; omega
          have hro := hTB.row
          rw [hlen] at hro
          obtain ⟨xa, xc, ya, yc, w1, e1, a1, a2, a3, a4⟩ := app48 (u := .slice ra (n + 1) rc) hro rfl (by omega)
          cases e1
          have HRUN := hide a1
          have HG2 : Hid (Below W.heap.size W w1 ∧ TM (fun k => W.heap.size ≤ k) w1 (.slice ya (b + 1) yc) ((bl.take (b + 1)).map rowsOf) (ts ++ [(.slice ra (n + 1) rc, xs)])) := by
            have hB3 : Below WB.heap.size WB (wr.alloc (.cells #[.slice ra (n + 1) rc] 41)) := (unhide HB2).trans ((box1n wr _).mono (unhide HB2).size)
            have hwB : W.heap.size ≤ WB.heap.size := (unhide HBW).size
            have hP : P2 (fun k => W.heap.size ≤ k) (wr.alloc (.cells #[.slice ra (n + 1) rc] 41)) (rowsOf u) (.slice ra (n + 1) rc, xs) := by
              have q := OW.below stayIB (unhide HOW) (box1n wr (.cells #[.slice ra (n + 1) rc] 41))
              have e : rowsOf u = List.replicate (n + 1) F0 := by unfold rowsOf; rw [unhide hnn]
              rw [e]
              exact OW.mono q (fun k _ hk => Nat.le_trans hwB hk)
            obtain ⟨o1, o2⟩ := OW.push (stay2 _) (unhide HT) hB3 hP (fun k hk => by
              have q := OW.below stayIB (unhide HOW) (box1n wr (.cells #[.slice ra (n + 1) rc] 41))
              exact q.in hk) (fun k hk => Nat.le_trans hwB hk) a2 (by rw [hlen]) a3 a4
            refine ⟨(unhide HBW).trans (o2.below (unhide HBW).size (fun k hk e => by have hq : W.heap.size ≤ k := (unhide HT).rb k e; omega)), ?_⟩
            · rw [take_push (unhide HU), List.map_append]
              exact o1
          clear hro a1 a2 a3 a4 HOW hTB
          go_wp2_with (first | (at_builtin; refine wpList_appRunC rfl _ _ rfl rfl rfl (unhide HRUN) ?_))
          go_roundg (N - (b + 1))
          case measure => have := unhide hb; omega
          case rel => exact ⟨b + 1, ya, yc, _, by have := unhide hb; unfold Hid; omega, by go_num, rfl, HG2⟩
    · have hbN : N = b := by have := unhide hb; omega
      subst hbN
      have b1 : ¬ (N : Int) < (N : Int) := by omega
      go_wp2_with fail
      go_ret
      refine ⟨_, rfl, (unhide HW).trans ((unhide HBW).mono (unhide HW).size), ts, ?_⟩
      have := unhide HT
      rw [List.take_of_length_le (by rw [unhide hNN]; exact Nat.le_refl _)] at this
      exact TM.mono this (fun k hk => Nat.le_trans (unhide HW).size hk)
end Go.Proofs.YtpbdmbmafjkinaaDoor
