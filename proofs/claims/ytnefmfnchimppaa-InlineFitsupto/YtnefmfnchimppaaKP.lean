/-
  A program that was kept.
-/
import Derived.Test.YtnefmfnchimppaaLnt
namespace Go.Proofs.Ytnefmfnchimppaa
open Go.RowKit
set_option linter.unusedVariables false
theorem lmC_left (l : List Cn) (i : Nat) (p : Cn) (h : l[i]? = some p) : (l ++ mkC 64)[i]? = some p := by
  rw [List.getElem?_append_left (List.getElem?_eq_some_iff.1 h).1]; exact h
theorem lmC_right (l : List Cn) (i : Nat) (h1 : l.length ≤ i) (h2 : i < l.length + 64) : (l ++ mkC 64)[i]? = some ⟨-7, (i : Int) - (l.length : Int), ByteArray.empty⟩ := by
  rw [List.getElem?_append_right h1]
  simp [mkC, List.getElem?_range (show i - l.length < 64 by omega)]
  omega
theorem Lnt.rowC {w wr : World} {p : Pg} {cg co ccap fg fo fcap : Nat} {ys : List Fv} (h : Lnt w p cg co ccap fg fo fcap ys wr) {k : Nat} {c : Cn} (hx : (p.consts ++ mkC 64)[k]? = some c) : cg < wr.heap.size ∧ ∀ (j : Nat) u, (enC c)[j]? = some u → wr.cell? ⟨cg, co + k * 3 + j, none⟩ = some u := by
  have := Rx.of_ro h.crow
  have e : p.consts.length + 64 = (p.consts ++ mkC 64).length := by rw [List.length_append, mkC_length]
  rw [e] at this
  obtain ⟨b, o, c, e, _, _, hb, hc⟩ := this.elem zC hx
  cases e
  exact ⟨hb, hc⟩
theorem Lnt.rowF {w wr : World} {p : Pg} {cg co ccap fg fo fcap : Nat} {ys : List Fv} (h : Lnt w p cg co ccap fg fo fcap ys wr) {k : Nat} {x : Fv} (hx : (List.zipWith lentF p.funcs ys ++ (ys ++ mkF p.funcs.length 64))[k]? = some x) : fg < wr.heap.size ∧ ∀ (j : Nat) u, (enF x)[j]? = some u → wr.cell? ⟨fg, fo + k * 5 + j, none⟩ = some u := by
  have := Rx.of_ro h.frow
  have hz : (List.zipWith lentF p.funcs ys).length = p.funcs.length := by rw [List.length_zipWith, h.yl, Nat.min_self]
  have e : p.funcs.length + p.funcs.length + 64 = (List.zipWith lentF p.funcs ys ++ (ys ++ mkF p.funcs.length 64)).length := by rw [List.length_append, List.length_append, hz, mkF_length, h.yl]; omega
  rw [e] at this
  obtain ⟨b, o, c, e, _, _, hb, hc⟩ := this.elem zF hx
  cases e
  exact ⟨hb, hc⟩
theorem box22 {w wr : World} {u v u' v' : Value} {e : TypeId} (h : Below (w.heap.size + 2) ((w.alloc (.cells #[u, v] e)).alloc (.cells #[u', v'] e)) wr) : wr.cell? ⟨w.heap.size, 0, none⟩ = some u ∧ wr.cell? ⟨w.heap.size, 1, none⟩ = some v ∧ wr.cell? ⟨w.heap.size + 1, 0, none⟩ = some u' ∧ wr.cell? ⟨w.heap.size + 1, 1, none⟩ = some v' ∧ Below w.heap.size w wr ∧ w.heap.size + 1 < wr.heap.size := by
  have h1 : Below (w.heap.size + 1) (w.alloc (.cells #[u, v] e)) wr := ((Below.refl _ _).alloc (by simp) _).trans (h.mono (by omega))
  obtain ⟨a1, a2, a3, a4⟩ := box2 h1
  obtain ⟨b1, b2, _, b4⟩ := box2 (w := w.alloc (.cells #[u, v] e)) (wr := wr) (u := u') (v := v') (e := e) (by simpa using h)
  simp only [World.size_alloc] at b1 b2 b4
  exact ⟨a1, a2, b1, b2, a3, b4⟩
theorem two_boxes (w : World) (u v : Array Value) (e e' : TypeId) : (∀ j, ((w.alloc (.cells u e)).alloc (.cells v e')).cell? ⟨w.heap.size, j, none⟩ = u[j]?) ∧ (∀ j, ((w.alloc (.cells u e)).alloc (.cells v e')).cell? ⟨w.heap.size + 1, j, none⟩ = v[j]?) ∧ Below w.heap.size w ((w.alloc (.cells u e)).alloc (.cells v e')) ∧ ((w.alloc (.cells u e)).alloc (.cells v e')).heap.size = w.heap.size + 2 := by
  have h1 := heap_alloc_new w (.cells u e)
  have h2 := heap_alloc_new (w.alloc (.cells u e)) (.cells v e')
  have h3 : ((w.alloc (.cells u e)).alloc (.cells v e')).heap[w.heap.size]? = some (.cells u e) := (Below.heap_alloc _ _ _ (by simp)).trans h1
  simp only [World.size_alloc] at h2
  refine ⟨fun j => by simp [World.cell?, h3], fun j => by unfold World.cell?; simp only [h2]; rfl, ((Below.refl _ _).alloc (Nat.le_refl _) _).alloc (by simp) _, by simp⟩

set_option maxRecDepth 100000 in
set_option maxHeartbeats 6400000 in
theorem keptP_any {w0 w : World} {pv : Value} {p : Pg} {cg co ccap fg fo fcap : Nat} {ys : List Fv} (h : Lnt w0 p cg co ccap fg fo fcap ys w) (hp : PgV w pv p) (hN : p.funcs.length ≤ 1048576) (hC : p.consts.length ≤ 1048576) (hBD : ∀ (i : Nat) (f : Fc), p.funcs[i]? = some f → f.code.length ≤ 1048576 ∧ f.hs.length ≤ 1048576) :
    Calls Try.prog 7 #[.agg #[.slice (some ⟨cg, co, none⟩) p.consts.length ccap, .slice (some ⟨fg, fo, none⟩) p.funcs.length fcap], pv] w fun e w' => e = .returned (.bool true) ∧ Below w.heap.size w w' := by
  have HBD := hide hBD
  clear hBD
  obtain ⟨cv, fv, rfl, hc, hf⟩ := hp
  have HCA := hide (fun i c (hp : p.consts[i]? = some c) => hc.elem zC hp)
  obtain ⟨_, ca, ccap', rfl, _, _, _⟩ := hc
  obtain ⟨xs0, hx1, hx2, hx3⟩ := hf
  have HXA := hide (fun i x (hp : xs0[i]? = some x) => hx2.elem zF hp)
  have HX3 := hide hx3
  obtain ⟨_, a, cap, rfl, _, _, _⟩ := hx2
  obtain ⟨NC, hNC⟩ : ∃ L, Hid (p.consts.length = L) := ⟨_, rfl⟩
  obtain ⟨NF, hNF⟩ : ∃ L, Hid (p.funcs.length = L) := ⟨_, rfl⟩
  have hcc : NC + 64 ≤ ccap := by
    obtain ⟨_, _, _, e, h1, _⟩ := h.crow.full (by omega)
    cases e; rw [unhide hNC] at h1; exact h1
  have hfc : NF + NF + 64 ≤ fcap := by
    obtain ⟨_, _, _, e, h1, _⟩ := h.frow.full (by omega)
    cases e; rw [unhide hNF] at h1; exact h1
  have HRC := hide (fun (k : Nat) (c : Cn) hx => Lnt.rowC h (k := k) (c := c) hx)
  have HRF := hide (fun (k : Nat) (c : Fv) hx => Lnt.rowF h (k := k) (x := c) hx)
  have H := hide h
  clear hx3 h
  rw [unhide hNC] at hC HCA ⊢
  rw [unhide hNF] at hN hx1 ⊢
  have hX0 := hide hx1
  rw [hx1] at HXA ⊢
  clear hx1
  have d0 : (((NC : Nat) : Int) != (NC : Int)) = false := by simp
  have d1 : (((NF : Nat) : Int) != (NF : Int)) = false := by simp
  go_enter Try.func7, Try.ntmps7
  go_wp2_with fail
  clear d0 d1
  go_loopg [8] (NC + 64) (fun gg t5 wr => ∃ (i : Nat), Hid (i + gg = NC + 64) ∧ t5 = .int .i64 (i : Int) ∧ Hid (Below (w.heap.size + 2) ((w.alloc (.cells #[.slice (some ⟨cg, co, none⟩) NC ccap, .slice (some ⟨fg, fo, none⟩) NF fcap] 25)).alloc (.cells #[.slice ca NC ccap', .slice a NF cap] 25)) wr))
  case atStart => exact ⟨0, by unfold Hid; omega, rfl, Below.refl _ _⟩
  case round =>
    obtain ⟨i, hi, rfl, hB0⟩ := hrel
    obtain ⟨qb0, qb1, pb0, pb1, hB, hl2'⟩ := box22 (unhide hB0)
    have hl2 : w.heap.size + 2 ≤ wr.heap.size := hl2'
    have HB := hide hB
    clear hB
    by_cases hlt : i < NC + 64
    · by_cases hl3 : i < NC
      · have hil : i < p.consts.length := by rw [unhide hNC]; exact hl3
        obtain ⟨c, hp⟩ : ∃ c, p.consts[i]? = some c := ⟨_, List.getElem?_eq_getElem hil⟩
        obtain ⟨b, so, _, e1, _, _, hb, cc⟩ := unhide HCA i c hp
        obtain ⟨hg, q⟩ := unhide HRC i c (lmC_left _ i c hp)
        cases e1
        have k0 : wr.cell? ⟨b, so + i * 3, none⟩ = some (.int .i64 c.kind) := ((unhide HB).cell (p := ⟨b, so + i * 3, none⟩) hb).trans (cc 0 _ rfl)
        have r0 : wr.cell? ⟨cg, co + i * 3, none⟩ = some (.int .i64 c.kind) := ((unhide HB).cell (p := ⟨cg, co + i * 3, none⟩) hg).trans (q 0 _ rfl)
        have k1 : wr.cell? ⟨b, so + i * 3 + 1, none⟩ = some (.int .i64 c.n) := ((unhide HB).cell (p := ⟨b, so + i * 3 + 1, none⟩) hb).trans (cc 1 _ rfl)
        have r1 : wr.cell? ⟨cg, co + i * 3 + 1, none⟩ = some (.int .i64 c.n) := ((unhide HB).cell (p := ⟨cg, co + i * 3 + 1, none⟩) hg).trans (q 1 _ rfl)
        have k2 : wr.cell? ⟨b, so + i * 3 + 2, none⟩ = some (.string c.text) := ((unhide HB).cell (p := ⟨b, so + i * 3 + 2, none⟩) hb).trans (cc 2 _ rfl)
        have r2 : wr.cell? ⟨cg, co + i * 3 + 2, none⟩ = some (.string c.text) := ((unhide HB).cell (p := ⟨cg, co + i * 3 + 2, none⟩) hg).trans (q 2 _ rfl)
        have hbr := Nat.lt_of_lt_of_le hb (unhide HB).size
        have hgr := Nat.lt_of_lt_of_le hg (unhide HB).size
        have i0 : (0 : Int) ≤ (i : Int) := by omega
        have i1 : (i : Int) < (NC : Int) := by omega
        have i2 : (i : Int) < (NC : Int) + 64 := by omega
        clear cc q hp
        have hB2 := hide ((unhide hB0).trans (((Below.refl _ wr).alloc (Nat.le_refl _) (.cells #[.int .i64 c.kind, .int .i64 c.n, .string c.text] 30)).mono hl2))
        go_wp2_with fail
        go_quiet (fail)
        have hB3 := hide ((unhide hB2).trans ((Fr.drewN (S := fun _ => False) nq).below (Nat.le_trans hl2 (by simp)) (fun _ _ e => e)))
        go_wp2_with fail
        go_roundg (gk - 1)
        case measure => have := unhide hi; omega
        case rel => exact ⟨i + 1, by have := unhide hi; unfold Hid; omega, by go_num, hB3⟩
      · obtain ⟨hg, q⟩ := unhide HRC i _ (lmC_right _ i (by rw [unhide hNC]; omega) (by rw [unhide hNC]; omega))
        rw [unhide hNC] at q
        have r0 : wr.cell? ⟨cg, co + i * 3, none⟩ = some (.int .i64 (-7)) := ((unhide HB).cell (p := ⟨cg, co + i * 3, none⟩) hg).trans (q 0 _ rfl)
        have r1 : wr.cell? ⟨cg, co + i * 3 + 1, none⟩ = some (.int .i64 ((i : Int) - (NC : Int))) := ((unhide HB).cell (p := ⟨cg, co + i * 3 + 1, none⟩) hg).trans (q 1 _ rfl)
        have r2 : wr.cell? ⟨cg, co + i * 3 + 2, none⟩ = some (.string ByteArray.empty) := ((unhide HB).cell (p := ⟨cg, co + i * 3 + 2, none⟩) hg).trans (q 2 _ rfl)
        have hgr := Nat.lt_of_lt_of_le hg (unhide HB).size
        have i0 : (0 : Int) ≤ (i : Int) := by omega
        have i1 : decide ((i : Int) < (NC : Int)) = false := decide_eq_false (by omega)
        have i2 : (i : Int) < (NC : Int) + 64 := by omega
        clear q
        have hB2 := hide ((unhide hB0).trans (((Below.refl _ wr).alloc (Nat.le_refl _) (.cells #[.int .i64 (-7), .int .i64 ((i : Int) - (NC : Int)), .string ByteArray.empty] 30)).mono hl2))
        go_wp2_with fail
        go_quiet (fail)
        have hB3 := hide ((unhide hB2).trans ((Fr.drewN (S := fun _ => False) nq).below (Nat.le_trans hl2 (by simp)) (fun _ _ e => e)))
        go_wp2_with fail
        go_roundg (gk - 1)
        case measure => have := unhide hi; omega
        case rel => exact ⟨i + 1, by have := unhide hi; unfold Hid; omega, by go_num, hB3⟩
    · have hiL : i = NC + 64 := by have := unhide hi; omega
      subst hiL
      clear qb0 qb1 pb0 pb1
      go_wp2_with fail
      go_loopg [10] NF (fun gg t5 wr => ∃ (i : Nat), Hid (i + gg = NF) ∧ t5 = .int .i64 (i : Int) ∧ Hid (Below (w.heap.size + 2) ((w.alloc (.cells #[.slice (some ⟨cg, co, none⟩) NC ccap, .slice (some ⟨fg, fo, none⟩) NF fcap] 25)).alloc (.cells #[.slice ca NC ccap', .slice a NF cap] 25)) wr))
      case atStart => exact ⟨0, by unfold Hid; omega, rfl, hB0⟩
      case round =>
        clear hi hB0 hl2 hl2' HB hlt
        obtain ⟨i, hi, rfl, hB0⟩ := hrel
        obtain ⟨qb0, qb1, pb0, pb1, hB, hl2'⟩ := box22 (unhide hB0)
        have hl2 : w.heap.size + 2 ≤ wr.heap.size := hl2'
        have HB := hide hB
        clear hB
        by_cases hlt : i < NF
        · obtain ⟨x, hp⟩ : ∃ x, xs0[i]? = some x := ⟨_, List.getElem?_eq_getElem (by rw [unhide hX0]; exact hlt)⟩
          obtain ⟨f, hpf⟩ : ∃ f, p.funcs[i]? = some f := ⟨_, List.getElem?_eq_getElem (by rw [unhide hNF]; exact hlt)⟩
          have hyl := (unhide H).yl
          obtain ⟨y, hpy⟩ : ∃ y, ys[i]? = some y := ⟨_, List.getElem?_eq_getElem (by rw [hyl, unhide hNF]; exact hlt)⟩
          have hz : (List.zipWith lentF p.funcs ys).length = NF := by rw [List.length_zipWith, hyl, Nat.min_self, unhide hNF]
          obtain ⟨b, off, _, e, _, _, hb, hcs⟩ := unhide HXA i x hp
          cases e
          have hfx := unhide HX3 i f x hpf hp
          obtain ⟨a1, c1, a2, c2, rfl⟩ := hfx.parts
          have rI := hfx.2.2.2.1
          have rH := hfx.2.2.2.2
          simp only at rI rH
          obtain ⟨_, _, _, ry3, ry4⟩ := (unhide H).own.rows i f y hpf hpy
          obtain ⟨yg3, yo3, yc3, ey3, hy3, hm3, _, _⟩ := ry3.full (by omega)
          obtain ⟨yg4, yo4, yc4, ey4, hy4, hm4, _, _⟩ := ry4.full (by omega)
          rw [ey3] at ry3
          rw [ey4] at ry4
          have u3 := ry3.upto rfl (k := f.code.length) (by omega)
          have u4 := ry4.upto rfl (k := f.hs.length) (by omega)
          rw [flt_take zI, List.take_left] at u3
          rw [flt_take zH, List.take_left] at u4
          have bI : f.code.length ≤ 8796093021952 := by have := (unhide HBD i f hpf).1; omega
          have bH : f.hs.length ≤ 4398046510976 := by have := (unhide HBD i f hpf).2; omega
          rw [← lmI_length] at ry3
          rw [← lmH_length] at ry4
          have HS1 := hide (fun wx (hx : Below w.heap.size w wx) => sameI_any (w := wx) ((Rx.of_ro u3).below hx (Nat.le_refl _)) (rI.below hx (Nat.le_refl _)) bI)
          have HS2 := hide (fun wx (hx : Below w.heap.size w wx) => sameH_any (w := wx) ((Rx.of_ro u4).below hx (Nat.le_refl _)) (rH.below hx (Nat.le_refl _)) bH)
          have HS3 := hide (fun wx (hx : Below w.heap.size w wx) => keptI_any (w := wx) ((Rx.of_ro ry3).below hx (Nat.le_refl _)) (rI.below hx (Nat.le_refl _)) bI)
          have HS4 := hide (fun wx (hx : Below w.heap.size w wx) => keptH_any (w := wx) ((Rx.of_ro ry4).below hx (Nat.le_refl _)) (rH.below hx (Nat.le_refl _)) bH)
          rw [lmI_length] at HS3
          rw [lmH_length] at HS4
          obtain ⟨hfg, qg⟩ := unhide HRF i (lentF f y) (by rw [List.getElem?_append_left (by omega), List.getElem?_zipWith, hpf, hpy])
          obtain ⟨_, qn⟩ := unhide HRF (NF + i) y (by rw [List.getElem?_append_right (by omega), hz, Nat.add_sub_cancel_left, List.getElem?_append_left (by rw [hyl, unhide hNF]; exact hlt)]; exact hpy)
          have el : lentF f y = ⟨f.name, f.params, f.locals, .slice (some ⟨yg3, yo3, none⟩) f.code.length yc3, .slice (some ⟨yg4, yo4, none⟩) f.hs.length yc4⟩ := by unfold lentF; rw [ey3, ey4]; rfl
          rw [el] at qg
          have qn3 := qn 3 _ rfl
          have qn4 := qn 4 _ rfl
          rw [ey3] at qn3
          rw [ey4] at qn4
          have e0 : wr.cell? ⟨b, off + i * 5, none⟩ = some (.string f.name) := ((unhide HB).cell (p := ⟨b, off + i * 5, none⟩) hb).trans (hcs 0 _ rfl)
          have g0 : wr.cell? ⟨fg, fo + i * 5, none⟩ = some (.string f.name) := ((unhide HB).cell (p := ⟨fg, fo + i * 5, none⟩) hfg).trans (qg 0 _ rfl)
          have e1 : wr.cell? ⟨b, off + i * 5 + 1, none⟩ = some (.int .i64 f.params) := ((unhide HB).cell (p := ⟨b, off + i * 5 + 1, none⟩) hb).trans (hcs 1 _ rfl)
          have g1 : wr.cell? ⟨fg, fo + i * 5 + 1, none⟩ = some (.int .i64 f.params) := ((unhide HB).cell (p := ⟨fg, fo + i * 5 + 1, none⟩) hfg).trans (qg 1 _ rfl)
          have e2 : wr.cell? ⟨b, off + i * 5 + 2, none⟩ = some (.int .i64 f.locals) := ((unhide HB).cell (p := ⟨b, off + i * 5 + 2, none⟩) hb).trans (hcs 2 _ rfl)
          have g2 : wr.cell? ⟨fg, fo + i * 5 + 2, none⟩ = some (.int .i64 f.locals) := ((unhide HB).cell (p := ⟨fg, fo + i * 5 + 2, none⟩) hfg).trans (qg 2 _ rfl)
          have e3 : wr.cell? ⟨b, off + i * 5 + 3, none⟩ = some (.slice a1 f.code.length c1) := ((unhide HB).cell (p := ⟨b, off + i * 5 + 3, none⟩) hb).trans (hcs 3 _ rfl)
          have g3 : wr.cell? ⟨fg, fo + i * 5 + 3, none⟩ = some (.slice (some ⟨yg3, yo3, none⟩) f.code.length yc3) := ((unhide HB).cell (p := ⟨fg, fo + i * 5 + 3, none⟩) hfg).trans (qg 3 _ rfl)
          have e4 : wr.cell? ⟨b, off + i * 5 + 4, none⟩ = some (.slice a2 f.hs.length c2) := ((unhide HB).cell (p := ⟨b, off + i * 5 + 4, none⟩) hb).trans (hcs 4 _ rfl)
          have g4 : wr.cell? ⟨fg, fo + i * 5 + 4, none⟩ = some (.slice (some ⟨yg4, yo4, none⟩) f.hs.length yc4) := ((unhide HB).cell (p := ⟨fg, fo + i * 5 + 4, none⟩) hfg).trans (qg 4 _ rfl)
          have hbr := Nat.lt_of_lt_of_le hb (unhide HB).size
          have hgr := Nat.lt_of_lt_of_le hfg (unhide HB).size
          have n3 := ((unhide HB).cell (p := ⟨fg, fo + (NF + i) * 5 + 3, none⟩) hfg).trans qn3
          have n4 := ((unhide HB).cell (p := ⟨fg, fo + (NF + i) * 5 + 4, none⟩) hfg).trans qn4
          have i0 : (0 : Int) ≤ (i : Int) := by omega
          have i1 : (i : Int) < (NF : Int) := by omega
          have i2 : (i : Int) < 2 * (NF : Int) + 64 := by omega
          have i3 : (NF : Int) + (i : Int) < 2 * (NF : Int) + 64 := by omega
          have i4 : (0 : Int) ≤ (NF : Int) + (i : Int) := by omega
          have i6 : IntKind.i64.wrap ((NF : Int) + (i : Int)) = (NF : Int) + (i : Int) := by rw [IntKind.wrap_i64]; omega
          have i5 : ((NF : Int) + (i : Int)).toNat = NF + i := by omega
          obtain ⟨tb1, tb2, tb3, tb4⟩ := two_boxes wr #[.string f.name, .int .i64 f.params, .int .i64 f.locals, .slice a1 f.code.length c1, .slice a2 f.hs.length c2] #[.string f.name, .int .i64 f.params, .int .i64 f.locals, .slice (some ⟨yg3, yo3, none⟩) f.code.length yc3, .slice (some ⟨yg4, yo4, none⟩) f.hs.length yc4] 34 34
          have HT := hide (And.intro tb1 (And.intro tb2 (And.intro tb3 tb4)))
          have s1 : (f.name.toList != f.name.toList) = false := by simp
          clear hcs hp hpf hpy hyl hz hfx rI rH ry3 ry4 ey3 ey4 hm3 hm4 u3 u4 bI bH qg qn el qn3 qn4 tb1 tb2 tb3 tb4
          go_wp2_with fail
          refine (unhide HS1 _ ((unhide HB).trans (Below.mono (unhide HT).2.2.1 (unhide HB).size))).mono ?_
          rintro e v1 ⟨rfl, hb1⟩
          have bb1 : Below (wr.heap.size + 2) ((wr.alloc (.cells #[.string f.name, .int .i64 f.params, .int .i64 f.locals, .slice a1 f.code.length c1, .slice a2 f.hs.length c2] 34)).alloc (.cells #[.string f.name, .int .i64 f.params, .int .i64 f.locals, .slice (some ⟨yg3, yo3, none⟩) f.code.length yc3, .slice (some ⟨yg4, yo4, none⟩) f.hs.length yc4] 34)) v1 := hb1.mono (by rw [(unhide HT).2.2.2]; exact Nat.le_refl _)
          have f10 := (bb1.cell (p := ⟨wr.heap.size, 0, none⟩) (by simp)).trans ((unhide HT).1 0)
          have h10 := (bb1.cell (p := ⟨wr.heap.size + 1, 0, none⟩) (by simp)).trans ((unhide HT).2.1 0)
          have f11 := (bb1.cell (p := ⟨wr.heap.size, 1, none⟩) (by simp)).trans ((unhide HT).1 1)
          have h11 := (bb1.cell (p := ⟨wr.heap.size + 1, 1, none⟩) (by simp)).trans ((unhide HT).2.1 1)
          have f12 := (bb1.cell (p := ⟨wr.heap.size, 2, none⟩) (by simp)).trans ((unhide HT).1 2)
          have h12 := (bb1.cell (p := ⟨wr.heap.size + 1, 2, none⟩) (by simp)).trans ((unhide HT).2.1 2)
          have f13 := (bb1.cell (p := ⟨wr.heap.size, 3, none⟩) (by simp)).trans ((unhide HT).1 3)
          have h13 := (bb1.cell (p := ⟨wr.heap.size + 1, 3, none⟩) (by simp)).trans ((unhide HT).2.1 3)
          have f14 := (bb1.cell (p := ⟨wr.heap.size, 4, none⟩) (by simp)).trans ((unhide HT).1 4)
          have h14 := (bb1.cell (p := ⟨wr.heap.size + 1, 4, none⟩) (by simp)).trans ((unhide HT).2.1 4)
          have n13 : v1.cell? ⟨fg, fo + (NF + i) * 5 + 3, none⟩ = some (.slice (some ⟨yg3, yo3, none⟩) (f.code.length + 64) yc3) := (((unhide HT).2.2.1.trans (bb1.mono (by omega))).cell (p := ⟨fg, fo + (NF + i) * 5 + 3, none⟩) hgr).trans n3
          have n14 : v1.cell? ⟨fg, fo + (NF + i) * 5 + 4, none⟩ = some (.slice (some ⟨yg4, yo4, none⟩) (f.hs.length + 64) yc4) := (((unhide HT).2.2.1.trans (bb1.mono (by omega))).cell (p := ⟨fg, fo + (NF + i) * 5 + 4, none⟩) hgr).trans n4
          simp only [List.getElem?_toArray, List.getElem?_cons_zero, List.getElem?_cons_succ] at f10 h10 f11 h11 f12 h12 f13 h13 f14 h14
          go_wp2_with fail
          refine (unhide HS2 _ ((unhide HB).trans (Below.mono ((unhide HT).2.2.1.trans (bb1.mono (by omega))) (unhide HB).size))).mono ?_
          rintro e v2 ⟨rfl, hb2⟩
          have bb2 := bb1.trans (hb2.mono (by have := bb1.size; rw [(unhide HT).2.2.2] at this; exact this))
          have f20 := (bb2.cell (p := ⟨wr.heap.size, 0, none⟩) (by simp)).trans ((unhide HT).1 0)
          have h20 := (bb2.cell (p := ⟨wr.heap.size + 1, 0, none⟩) (by simp)).trans ((unhide HT).2.1 0)
          have f21 := (bb2.cell (p := ⟨wr.heap.size, 1, none⟩) (by simp)).trans ((unhide HT).1 1)
          have h21 := (bb2.cell (p := ⟨wr.heap.size + 1, 1, none⟩) (by simp)).trans ((unhide HT).2.1 1)
          have f22 := (bb2.cell (p := ⟨wr.heap.size, 2, none⟩) (by simp)).trans ((unhide HT).1 2)
          have h22 := (bb2.cell (p := ⟨wr.heap.size + 1, 2, none⟩) (by simp)).trans ((unhide HT).2.1 2)
          have f23 := (bb2.cell (p := ⟨wr.heap.size, 3, none⟩) (by simp)).trans ((unhide HT).1 3)
          have h23 := (bb2.cell (p := ⟨wr.heap.size + 1, 3, none⟩) (by simp)).trans ((unhide HT).2.1 3)
          have f24 := (bb2.cell (p := ⟨wr.heap.size, 4, none⟩) (by simp)).trans ((unhide HT).1 4)
          have h24 := (bb2.cell (p := ⟨wr.heap.size + 1, 4, none⟩) (by simp)).trans ((unhide HT).2.1 4)
          have n23 : v2.cell? ⟨fg, fo + (NF + i) * 5 + 3, none⟩ = some (.slice (some ⟨yg3, yo3, none⟩) (f.code.length + 64) yc3) := (((unhide HT).2.2.1.trans (bb2.mono (by omega))).cell (p := ⟨fg, fo + (NF + i) * 5 + 3, none⟩) hgr).trans n3
          have n24 : v2.cell? ⟨fg, fo + (NF + i) * 5 + 4, none⟩ = some (.slice (some ⟨yg4, yo4, none⟩) (f.hs.length + 64) yc4) := (((unhide HT).2.2.1.trans (bb2.mono (by omega))).cell (p := ⟨fg, fo + (NF + i) * 5 + 4, none⟩) hgr).trans n4
          simp only [List.getElem?_toArray, List.getElem?_cons_zero, List.getElem?_cons_succ] at f20 h20 f21 h21 f22 h22 f23 h23 f24 h24
          go_wp2_with fail
          have HZ2 : wr.heap.size + 2 ≤ v2.heap.size := by have := bb2.size; rw [(unhide HT).2.2.2] at this; exact this
          have F3 : ((wr.alloc (.cells #[.string f.name, .int .i64 f.params, .int .i64 f.locals, .slice a1 f.code.length c1, .slice a2 f.hs.length c2] 34)).alloc (.cells #[.string f.name, .int .i64 f.params, .int .i64 f.locals, .slice (some ⟨yg3, yo3, none⟩) f.code.length yc3, .slice (some ⟨yg4, yo4, none⟩) f.hs.length yc4] 34)).cell? ⟨wr.heap.size, 3, none⟩ = some (.slice a1 f.code.length c1) := (unhide HT).1 3
          have F4 : ((wr.alloc (.cells #[.string f.name, .int .i64 f.params, .int .i64 f.locals, .slice a1 f.code.length c1, .slice a2 f.hs.length c2] 34)).alloc (.cells #[.string f.name, .int .i64 f.params, .int .i64 f.locals, .slice (some ⟨yg3, yo3, none⟩) f.code.length yc3, .slice (some ⟨yg4, yo4, none⟩) f.hs.length yc4] 34)).cell? ⟨wr.heap.size, 4, none⟩ = some (.slice a2 f.hs.length c2) := (unhide HT).1 4
          have N3 : ((wr.alloc (.cells #[.string f.name, .int .i64 f.params, .int .i64 f.locals, .slice a1 f.code.length c1, .slice a2 f.hs.length c2] 34)).alloc (.cells #[.string f.name, .int .i64 f.params, .int .i64 f.locals, .slice (some ⟨yg3, yo3, none⟩) f.code.length yc3, .slice (some ⟨yg4, yo4, none⟩) f.hs.length yc4] 34)).cell? ⟨fg, fo + (NF + i) * 5 + 3, none⟩ = some (.slice (some ⟨yg3, yo3, none⟩) (f.code.length + 64) yc3) := ((unhide HT).2.2.1.cell (p := ⟨fg, fo + (NF + i) * 5 + 3, none⟩) hgr).trans n3
          have N4 : ((wr.alloc (.cells #[.string f.name, .int .i64 f.params, .int .i64 f.locals, .slice a1 f.code.length c1, .slice a2 f.hs.length c2] 34)).alloc (.cells #[.string f.name, .int .i64 f.params, .int .i64 f.locals, .slice (some ⟨yg3, yo3, none⟩) f.code.length yc3, .slice (some ⟨yg4, yo4, none⟩) f.hs.length yc4] 34)).cell? ⟨fg, fo + (NF + i) * 5 + 4, none⟩ = some (.slice (some ⟨yg4, yo4, none⟩) (f.hs.length + 64) yc4) := ((unhide HT).2.2.1.cell (p := ⟨fg, fo + (NF + i) * 5 + 4, none⟩) hgr).trans n4
          clear f20 f21 f22 f23 f24 h20 h21 h22 h23 h24 n23 n24 f10 f11 f12 f13 f14 h10 h11 h12 h13 h14 n13 n14
          refine wp_region_held_drew (S := (fun wx => Below (wr.heap.size + 2) ((wr.alloc (.cells #[.string f.name, .int .i64 f.params, .int .i64 f.locals, .slice a1 f.code.length c1, .slice a2 f.hs.length c2] 34)).alloc (.cells #[.string f.name, .int .i64 f.params, .int .i64 f.locals, .slice (some ⟨yg3, yo3, none⟩) f.code.length yc3, .slice (some ⟨yg4, yo4, none⟩) f.hs.length yc4] 34)) wx)) (by kernel_rfl) (Below.drawn bb2) (fun hHeld => ?_)
          refine wpAnyH_take (i := 0) (oi := _) (v := .slice (some ⟨fg, fo, none⟩) (2 * NF + 64) fcap) rfl (by kernel_rfl) (by kernel_rfl) (by kernel_rfl) (fun _ _ _ h => h) (Or.inl ⟨by rfl, (by intro w hSw; go_simp)⟩) (by assumption) ?_
          refine wpAnyH_take (i := 1) (oi := _) (v := .int .i64 (NF : Int)) rfl (by kernel_rfl) (by kernel_rfl) (by kernel_rfl) (fun _ _ _ h => h) (Or.inl ⟨by rfl, (by intro w hSw; go_simp)⟩) (by assumption) ?_
          refine wpAnyH_take (i := 2) (oi := _) (v := .int .i64 (i : Int)) rfl (by kernel_rfl) (by kernel_rfl) (by kernel_rfl) (fun _ _ _ h => h) (Or.inl ⟨by rfl, (by intro w hSw; go_simp)⟩) (by assumption) ?_
          go_simp
          refine wpAnyH_take (i := 3) (oi := _) (v := .int .i64 ((NF : Int) + (i : Int))) rfl (by kernel_rfl) (by kernel_rfl) (by kernel_rfl) (fun _ _ _ h => h) (Or.inl ⟨by rfl, (by intro w hSw; go_simp)⟩) (by assumption) ?_
          refine wpAnyH_take (i := 4) (oi := _) (v := .pointer (some ⟨fg, fo + (NF + i) * 5, none⟩)) rfl (by kernel_rfl) (by kernel_rfl) (by kernel_rfl) (fun _ _ _ h => h) (Or.inl ⟨by rfl, (by intro w hSw; go_simp)⟩) (by assumption) ?_
          go_simp
          refine wpAnyH_take (i := 5) (oi := _) (v := .pointer (some ⟨fg, fo + (NF + i) * 5 + 3, none⟩)) rfl (by kernel_rfl) (by kernel_rfl) (by kernel_rfl) (fun _ _ _ h => h) (Or.inl ⟨by rfl, (by intro w hSw; go_simp)⟩) (by assumption) ?_
          refine wpAnyH_take (i := 6) (oi := _) (v := .slice (some ⟨yg3, yo3, none⟩) (f.code.length + 64) yc3) rfl (by kernel_rfl) (by kernel_rfl) (by kernel_rfl) (fun _ _ _ h => h) (Or.inl ⟨by rfl, (by intro w hSw; have hs0 := Below.heldIn hSw (by simp; omega) N3; go_simp)⟩) (by assumption) ?_
          refine wpAnyH_take (i := 7) (oi := _) (v := .pointer (some ⟨wr.heap.size, 3, none⟩)) rfl (by kernel_rfl) (by kernel_rfl) (by kernel_rfl) (fun _ _ _ h => h) (Or.inl ⟨by rfl, (by intro w hSw; go_simp)⟩) (by assumption) ?_
          go_simp
          refine wpAnyH_take (i := 8) (oi := _) (v := .slice a1 f.code.length c1) rfl (by kernel_rfl) (by kernel_rfl) (by kernel_rfl) (fun _ _ _ h => h) (Or.inl ⟨by rfl, (by intro w hSw; have hs0 := Below.heldIn hSw (by simp) F3; go_simp)⟩) (by assumption) ?_
          go_simp
          refine wpAnyH_ready (rs := [9]) (by kernel_rfl) (by simp) ?_
          refine AllReadyH.cons (o := _) rfl (fun K hK => ?_) AllReadyH.nil
          go_simp
          refine (unhide HS3 _ (Below.drawn ((unhide HB).trans (Below.mono ((unhide HT).2.2.1.trans (bb2.mono (by omega))) (unhide HB).size)))).mono ?_
          rintro e v3 ⟨rfl, hb3⟩
          have bb3 : Below (wr.heap.size + 2) ((wr.alloc (.cells #[.string f.name, .int .i64 f.params, .int .i64 f.locals, .slice a1 f.code.length c1, .slice a2 f.hs.length c2] 34)).alloc (.cells #[.string f.name, .int .i64 f.params, .int .i64 f.locals, .slice (some ⟨yg3, yo3, none⟩) f.code.length yc3, .slice (some ⟨yg4, yo4, none⟩) f.hs.length yc4] 34)) v3 := bb2.trans ((fun k => (⟨k.os, k.tape, k.output, k.size, k.block⟩ : Below v2.heap.size v2 v3)) hb3 |>.mono HZ2)
          have HZ3 : wr.heap.size + 2 ≤ v3.heap.size := by have := bb3.size; rw [(unhide HT).2.2.2] at this; exact this
          go_simp
          refine hK.out _ _ bb3 (fun hHeld3 => ?_)
          clear hK K
          go_simp
          refine wpAnyH_take (i := 10) (oi := _) (v := .bool false) rfl (by kernel_rfl) (by kernel_rfl) (by kernel_rfl) (fun _ _ _ h => h) (Or.inl ⟨by rfl, (by intro w hSw; go_simp)⟩) (by assumption) ?_
          refine wpAnyH_take (i := 11) (oi := _) (v := .bool false) rfl (by kernel_rfl) (by kernel_rfl) (by kernel_rfl) (fun _ _ _ h => h) (Or.inl ⟨by rfl, (by intro w hSw; go_simp)⟩) (by assumption) ?_
          go_simp
          refine wpAnyH_take (i := 12) (oi := _) (v := .slice (some ⟨fg, fo, none⟩) (2 * NF + 64) fcap) rfl (by kernel_rfl) (by kernel_rfl) (by kernel_rfl) (fun _ _ _ h => h) (Or.inl ⟨by rfl, (by intro w hSw; go_simp)⟩) (by assumption) ?_
          refine wpAnyH_take (i := 13) (oi := _) (v := .int .i64 (NF : Int)) rfl (by kernel_rfl) (by kernel_rfl) (by kernel_rfl) (fun _ _ _ h => h) (Or.inl ⟨by rfl, (by intro w hSw; go_simp)⟩) (by assumption) ?_
          refine wpAnyH_take (i := 14) (oi := _) (v := .int .i64 (i : Int)) rfl (by kernel_rfl) (by kernel_rfl) (by kernel_rfl) (fun _ _ _ h => h) (Or.inl ⟨by rfl, (by intro w hSw; go_simp)⟩) (by assumption) ?_
          go_simp
          refine wpAnyH_take (i := 15) (oi := _) (v := .int .i64 ((NF : Int) + (i : Int))) rfl (by kernel_rfl) (by kernel_rfl) (by kernel_rfl) (fun _ _ _ h => h) (Or.inl ⟨by rfl, (by intro w hSw; go_simp)⟩) (by assumption) ?_
          refine wpAnyH_take (i := 16) (oi := _) (v := .pointer (some ⟨fg, fo + (NF + i) * 5, none⟩)) rfl (by kernel_rfl) (by kernel_rfl) (by kernel_rfl) (fun _ _ _ h => h) (Or.inl ⟨by rfl, (by intro w hSw; go_simp)⟩) (by assumption) ?_
          go_simp
          refine wpAnyH_take (i := 17) (oi := _) (v := .pointer (some ⟨fg, fo + (NF + i) * 5 + 4, none⟩)) rfl (by kernel_rfl) (by kernel_rfl) (by kernel_rfl) (fun _ _ _ h => h) (Or.inl ⟨by rfl, (by intro w hSw; go_simp)⟩) (by assumption) ?_
          refine wpAnyH_take (i := 18) (oi := _) (v := .slice (some ⟨yg4, yo4, none⟩) (f.hs.length + 64) yc4) rfl (by kernel_rfl) (by kernel_rfl) (by kernel_rfl) (fun _ _ _ h => h) (Or.inl ⟨by rfl, (by intro w hSw; have hs0 := Below.heldIn hSw (by simp; omega) N4; go_simp)⟩) (by assumption) ?_
          refine wpAnyH_take (i := 19) (oi := _) (v := .pointer (some ⟨wr.heap.size, 4, none⟩)) rfl (by kernel_rfl) (by kernel_rfl) (by kernel_rfl) (fun _ _ _ h => h) (Or.inl ⟨by rfl, (by intro w hSw; go_simp)⟩) (by assumption) ?_
          go_simp
          refine wpAnyH_take (i := 20) (oi := _) (v := .slice a2 f.hs.length c2) rfl (by kernel_rfl) (by kernel_rfl) (by kernel_rfl) (fun _ _ _ h => h) (Or.inl ⟨by rfl, (by intro w hSw; have hs0 := Below.heldIn hSw (by simp) F4; go_simp)⟩) (by assumption) ?_
          go_simp
          refine wpAnyH_ready (rs := [21]) (by kernel_rfl) (by simp) ?_
          refine AllReadyH.cons (o := _) rfl (fun K hK => ?_) AllReadyH.nil
          go_simp
          refine (unhide HS4 _ ((unhide HB).trans (Below.mono ((unhide HT).2.2.1.trans (bb3.mono (by omega))) (unhide HB).size))).mono ?_
          rintro e v4 ⟨rfl, hb4⟩
          have bb4 : Below (wr.heap.size + 2) ((wr.alloc (.cells #[.string f.name, .int .i64 f.params, .int .i64 f.locals, .slice a1 f.code.length c1, .slice a2 f.hs.length c2] 34)).alloc (.cells #[.string f.name, .int .i64 f.params, .int .i64 f.locals, .slice (some ⟨yg3, yo3, none⟩) f.code.length yc3, .slice (some ⟨yg4, yo4, none⟩) f.hs.length yc4] 34)) v4 := bb3.trans (hb4.mono HZ3)

          go_simp
          refine hK.out _ _ bb4 (fun hHeld4 => ?_)
          clear hK K
          go_simp
          refine wpAnyH_take (i := 22) (oi := _) (v := .bool false) rfl (by kernel_rfl) (by kernel_rfl) (by kernel_rfl) (fun _ _ _ h => h) (Or.inl ⟨by rfl, (by intro w hSw; go_simp)⟩) (by assumption) ?_
          refine wpAnyH_take (i := 23) (oi := _) (v := .bool false) rfl (by kernel_rfl) (by kernel_rfl) (by kernel_rfl) (fun _ _ _ h => h) (Or.inl ⟨by rfl, (by intro w hSw; go_simp)⟩) (by assumption) ?_
          refine wpAnyH_done (by kernel_rfl) ?_ _
          have hB9 := hide ((unhide hB0).trans (Below.mono ((unhide HT).2.2.1.trans (bb4.mono (by omega))) hl2))
          clear hHeld hHeld3 hHeld4 bb1 bb2 bb3 bb4 hb1 hb2 hb3 hb4 F3 F4 N3 N4
          go_wp2_with fail
          go_roundg (gk - 1)
          case measure => have := unhide hi; omega
          case rel => exact ⟨i + 1, by have := unhide hi; unfold Hid; omega, by go_num, hB9⟩
        · have hiL : NF = i := by have := unhide hi; omega
          subst hiL
          clear qb0 qb1 pb0 pb1
          go_wp2_with fail
          go_loopg [13] (NF + 64) (fun gg t5 wr => ∃ (i : Nat), Hid (i + gg = NF + 64) ∧ t5 = .int .i64 (i : Int) ∧ Hid (Below w.heap.size w wr))
          case atStart => exact ⟨0, by unfold Hid; omega, rfl, HB⟩
          case round =>
            clear hi hB0 hl2 hl2' HB hlt
            obtain ⟨i, hi, rfl, HB⟩ := hrel
            have hz : (List.zipWith lentF p.funcs ys).length = NF := by rw [List.length_zipWith, (unhide H).yl, Nat.min_self, unhide hNF]
            by_cases hlt : i < NF + 64
            · have i0 : (0 : Int) ≤ (i : Int) := by omega
              have i1 : (i : Int) < (NF : Int) + 64 := by omega
              have i3 : (NF : Int) + (i : Int) < 2 * (NF : Int) + 64 := by omega
              have i4 : (0 : Int) ≤ (NF : Int) + (i : Int) := by omega
              have i6 : IntKind.i64.wrap ((NF : Int) + (i : Int)) = (NF : Int) + (i : Int) := by rw [IntKind.wrap_i64]; omega
              have i5 : ((NF : Int) + (i : Int)).toNat = NF + i := by omega
              have s0 : (ByteArray.empty.toList != ByteArray.toList { data := #[] }) = false := by simp [show ({ data := #[] } : ByteArray) = ByteArray.empty from rfl]
              by_cases hl3 : i < NF
              · obtain ⟨f, hpf⟩ : ∃ f, p.funcs[i]? = some f := ⟨_, List.getElem?_eq_getElem (by rw [unhide hNF]; exact hl3)⟩
                have hyl := (unhide H).yl
                obtain ⟨y, hpy⟩ : ∃ y, ys[i]? = some y := ⟨_, List.getElem?_eq_getElem (by rw [hyl, unhide hNF]; exact hl3)⟩
                obtain ⟨y1, y2, y3, ry3, ry4⟩ := (unhide H).own.rows i f y hpf hpy
                obtain ⟨yg3, yo3, yc3, ey3, hy3, hm3, _, _⟩ := ry3.full (by omega)
                obtain ⟨yg4, yo4, yc4, ey4, hy4, hm4, _, _⟩ := ry4.full (by omega)
                obtain ⟨hfg, qn⟩ := unhide HRF (NF + i) y (by rw [List.getElem?_append_right (by omega), hz, Nat.add_sub_cancel_left, List.getElem?_append_left (by rw [hyl, unhide hNF]; exact hl3)]; exact hpy)
                have ey : y = ⟨ByteArray.empty, -7, (i : Int), .slice (some ⟨yg3, yo3, none⟩) (f.code.length + 64) yc3, .slice (some ⟨yg4, yo4, none⟩) (f.hs.length + 64) yc4⟩ := by
                  cases y
                  simp only at y1 y2 y3 ey3 ey4
                  subst y1 y2 y3 ey3 ey4
                  rfl
                rw [ey] at qn
                have g0 : wr.cell? ⟨fg, fo + (NF + i) * 5, none⟩ = some (.string ByteArray.empty) := ((unhide HB).cell (p := ⟨fg, fo + (NF + i) * 5, none⟩) hfg).trans (qn 0 _ rfl)
                have g1 : wr.cell? ⟨fg, fo + (NF + i) * 5 + 1, none⟩ = some (.int .i64 (-7)) := ((unhide HB).cell (p := ⟨fg, fo + (NF + i) * 5 + 1, none⟩) hfg).trans (qn 1 _ rfl)
                have g2 : wr.cell? ⟨fg, fo + (NF + i) * 5 + 2, none⟩ = some (.int .i64 (i : Int)) := ((unhide HB).cell (p := ⟨fg, fo + (NF + i) * 5 + 2, none⟩) hfg).trans (qn 2 _ rfl)
                have g3 : wr.cell? ⟨fg, fo + (NF + i) * 5 + 3, none⟩ = some (.slice (some ⟨yg3, yo3, none⟩) (f.code.length + 64) yc3) := ((unhide HB).cell (p := ⟨fg, fo + (NF + i) * 5 + 3, none⟩) hfg).trans (qn 3 _ rfl)
                have g4 : wr.cell? ⟨fg, fo + (NF + i) * 5 + 4, none⟩ = some (.slice (some ⟨yg4, yo4, none⟩) (f.hs.length + 64) yc4) := ((unhide HB).cell (p := ⟨fg, fo + (NF + i) * 5 + 4, none⟩) hfg).trans (qn 4 _ rfl)
                have hgr := Nat.lt_of_lt_of_le hfg (unhide HB).size
                have d3 : decide ((i : Int) ≥ (NF : Int)) = false := decide_eq_false (by omega)
                have d3' : decide ((NF : Int) ≤ (i : Int)) = false := decide_eq_false (by omega)
                clear qn ey ey3 ey4 ry3 ry4 y1 y2 y3 hpf hpy hyl hz
                have hB2 := hide ((unhide HB).trans (((Below.refl _ wr).alloc (Nat.le_refl _) (.cells #[.string ByteArray.empty, .int .i64 (-7), .int .i64 (i : Int), .slice (some ⟨yg3, yo3, none⟩) (f.code.length + 64) yc3, .slice (some ⟨yg4, yo4, none⟩) (f.hs.length + 64) yc4] 34)).mono (unhide HB).size))
                go_wp2_with fail
                go_roundg (gk - 1)
                case measure => have := unhide hi; omega
                case rel => exact ⟨i + 1, by have := unhide hi; unfold Hid; omega, by go_num, hB2⟩
              · obtain ⟨hfg, qn⟩ := unhide HRF (NF + i) ⟨ByteArray.empty, -7, (i : Int), .slice none 0 0, .slice none 0 0⟩ (by
                  rw [List.getElem?_append_right (by omega), hz, Nat.add_sub_cancel_left, List.getElem?_append_right (by rw [(unhide H).yl, unhide hNF]; omega), (unhide H).yl, unhide hNF]
                  simp [mkF, List.getElem?_range (show i - NF < 64 by omega)]
                  omega)
                have g0 : wr.cell? ⟨fg, fo + (NF + i) * 5, none⟩ = some (.string ByteArray.empty) := ((unhide HB).cell (p := ⟨fg, fo + (NF + i) * 5, none⟩) hfg).trans (qn 0 _ rfl)
                have g1 : wr.cell? ⟨fg, fo + (NF + i) * 5 + 1, none⟩ = some (.int .i64 (-7)) := ((unhide HB).cell (p := ⟨fg, fo + (NF + i) * 5 + 1, none⟩) hfg).trans (qn 1 _ rfl)
                have g2 : wr.cell? ⟨fg, fo + (NF + i) * 5 + 2, none⟩ = some (.int .i64 (i : Int)) := ((unhide HB).cell (p := ⟨fg, fo + (NF + i) * 5 + 2, none⟩) hfg).trans (qn 2 _ rfl)
                have g3 : wr.cell? ⟨fg, fo + (NF + i) * 5 + 3, none⟩ = some (.slice none 0 0) := ((unhide HB).cell (p := ⟨fg, fo + (NF + i) * 5 + 3, none⟩) hfg).trans (qn 3 _ rfl)
                have g4 : wr.cell? ⟨fg, fo + (NF + i) * 5 + 4, none⟩ = some (.slice none 0 0) := ((unhide HB).cell (p := ⟨fg, fo + (NF + i) * 5 + 4, none⟩) hfg).trans (qn 4 _ rfl)
                have hgr := Nat.lt_of_lt_of_le hfg (unhide HB).size
                have d3 : (NF : Int) ≤ (i : Int) := by omega
                clear qn hz
                have hB2 := hide ((unhide HB).trans (((Below.refl _ wr).alloc (Nat.le_refl _) (.cells #[.string ByteArray.empty, .int .i64 (-7), .int .i64 (i : Int), .slice none 0 0, .slice none 0 0] 34)).mono (unhide HB).size))
                go_wp2_with fail
                go_roundg (gk - 1)
                case measure => have := unhide hi; omega
                case rel => exact ⟨i + 1, by have := unhide hi; unfold Hid; omega, by go_num, hB2⟩
            · have hiL : i = NF + 64 := by have := unhide hi; omega
              subst hiL
              go_wp2_with fail
              go_ret
              exact ⟨rfl, unhide HB⟩
end Go.Proofs.Ytnefmfnchimppaa
