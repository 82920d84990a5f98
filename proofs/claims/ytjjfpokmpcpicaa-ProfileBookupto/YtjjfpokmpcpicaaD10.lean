/-
  A profile is written over.
-/
import Derived.Test.YtjjfpokmpcpicaaRNt
namespace Go.Proofs.Ytjjfpokmpcpicaa
open Go.RowKit
set_option linter.unusedVariables false
set_option linter.unusedSimpArgs false
abbrev PO := SO
theorem bl_one (w : World) (o : Obj) : Below w.heap.size w (w.alloc o) := (Below.refl _ w).alloc (Nat.le_refl _) o
/-- While it is written over: from the i-th list on all is still there. -/
structure SC (Z : Nat → Prop) (w : World) (v : Value) (f : List (List Sp)) (vs : List Value) (i : Nat) (wr : World) : Prop where
  fr : Fr Z w wr
  row : ∃ xs : List Value, xs.length = vs.length ∧ Ro wr 1 v vs.length (flt enV xs) ∧ ∀ j, i ≤ j → xs[j]? = vs[j]?
  el : ∀ (j : Nat) (l : List Sp) (u : Value), i ≤ j → f[j]? = some l → vs[j]? = some u → ∃ l' : List Sp, l'.length = l.length ∧ Ro wr 4 u l'.length (flt enS l')
section
variable {Z : Nat → Prop} {w wr w' : World} {v : Value} {f : List (List Sp)} {vs : List Value} {i : Nat}
theorem SC.start (h : PO Z w v f vs) : SC Z w v f vs 0 w :=
  ⟨Fr.refl _ _, ⟨vs, rfl, by rw [h.len]; exact h.row, fun _ _ => rfl⟩, fun j l u _ hl hu => ⟨l, rfl, h.el j l u hl hu⟩⟩
theorem SC.box (h : SC Z w v f vs i wr) (f1 : Below wr.heap.size wr w') : SC Z w v f vs i w' := by
  have f2 : Fr (fun _ => False) wr w' := Fr.of_below f1
  obtain ⟨xs, h1, h2, h3⟩ := h.row
  refine ⟨h.fr.comp f2 (fun _ _ e => e.elim), ⟨xs, h1, h2.fr f2 (fun _ _ e => e), h3⟩, fun j l u hj hl hu => ?_⟩
  obtain ⟨l', k1, k2⟩ := h.el j l u hj hl hu
  exact ⟨l', k1, k2.fr f2 (fun _ _ e => e)⟩
/-- One cell of one spot of the i-th list. -/
theorem SC.spot (h : SC Z w v f vs i wr) (hp : PO Z w v f vs) {l : List Sp} {u : Value} (hl : f[i]? = some l) (hu : vs[i]? = some u) {g off n cap : Nat} (e : u = .slice (some ⟨g, off, none⟩) n cap) {p c : Nat} (hpl : p < l.length) (hc : c < 4) {x : Value} (hx : ∀ s : Sp, ∃ s', enS s' = (enS s).set c x) :
    SC Z w v f vs i (wr.setCell ⟨g, off + p * 4 + c, none⟩ x) := by
  obtain ⟨l', k1, k2⟩ := h.el i l u (Nat.le_refl _) hl hu
  have hpl' : p < l'.length := by omega
  obtain ⟨s', hs'⟩ := hx (l'[p])
  obtain ⟨a0, c0, e0, _, _⟩ := k2.shape
  rw [e] at e0
  cases e0
  obtain ⟨r1, r2⟩ := k2.put1 zS e (i := p) (c := c) (List.getElem?_eq_getElem hpl') hc hs'
  have hbu : blV u g := by rw [e]; rfl
  have hg := hp.eb i u g hu hbu
  obtain ⟨xs, h1, h2, h3⟩ := h.row
  refine ⟨h.fr.comp r2 (fun k _ e => by have e' : k = g := e; subst e'; exact hg.1), ⟨xs, h1, h2.fr r2 (fun k hk e => by have e' : k = g := e; subst e'; exact hg.2.2 hk), h3⟩, fun j l2 u2 hj hl2 hu2 => ?_⟩
  by_cases q : j = i
  · subst q
    rw [hl] at hl2
    cases hl2
    rw [hu] at hu2
    cases hu2
    exact ⟨l'.set p s', by rw [List.length_set]; exact k1, by rw [List.length_set]; exact r1⟩
  · obtain ⟨l3, m1, m2⟩ := h.el j l2 u2 hj hl2 hu2
    exact ⟨l3, m1, m2.fr r2 (fun k hk e => by have e' : k = g := e; subst e'; exact hp.ap i j u u2 k (fun q2 => q q2.symm) hu hu2 hbu hk)⟩
/-- The i-th list is forgotten. -/
theorem SC.next (h : SC Z w v f vs i wr) (hp : PO Z w v f vs) {g off n cap : Nat} (e : v = .slice (some ⟨g, off, none⟩) n cap) (hi : i < vs.length) :
    SC Z w v f vs (i + 1) (wr.setCell ⟨g, off + i, none⟩ (.slice none 0 0)) := by
  obtain ⟨xs, h1, h2, h3⟩ := h.row
  obtain ⟨a0, c0, e0, _, _⟩ := h2.shape
  rw [e] at e0
  cases e0
  have hxi : xs[i]? = some (xs[i]'(by omega)) := List.getElem?_eq_getElem (by omega)
  obtain ⟨r1, r2⟩ := h2.put1 zV e (i := i) (c := 0) hxi (by omega) (x' := .slice none 0 0) (u := .slice none 0 0) rfl
  rw [Nat.mul_one, Nat.add_zero] at r1 r2
  have hv : v.ownBlock = some g := by rw [e]; rfl
  refine ⟨h.fr.comp r2 (fun k _ e => by have e' : k = g := e; subst e'; exact hp.rb _ hv), ⟨xs.set i (.slice none 0 0), by rw [List.length_set]; exact h1, r1, fun j hj => by rw [List.getElem?_set_ne (by omega)]; exact h3 j (by omega)⟩, fun j l u hj hl hu => ?_⟩
  obtain ⟨l', m1, m2⟩ := h.el j l u (by omega) hl hu
  exact ⟨l', m1, m2.fr r2 (fun k hk e => by have e' : k = g := e; subst e'; exact (hp.eb j u k hu hk).2.2 hv)⟩
end
set_option maxRecDepth 100000 in
set_option maxHeartbeats 6400000 in
theorem scribble_any {Z : Nat → Prop} {w : World} {v : Value} {f : List (List Sp)} {vs : List Value} (hp : PO Z w v f vs) : Calls Try.prog 8 #[.agg #[v]] w fun e w' => e = .returned (.tuple #[]) ∧ Fr Z w w' := by
  obtain ⟨a, acap, rfl, ha1, ha2⟩ := hp.row.shape
  unfold maxLen at ha2
  have HX := hide ((SC.start hp).box (bl_one w (.cells #[.slice a f.length acap] 28)))
  have hbx := heap_alloc_new w (.cells #[.slice a f.length acap] 28)
  have HBX := hide hbx
  have hlv := hp.len
  have HP := hide hp
  have hZw : ∀ k, k < w.heap.size → Z k → True := fun _ _ _ => trivial
  obtain ⟨L, hL⟩ : ∃ L, Hid (f.length = L) := ⟨_, hide rfl⟩
  rw [unhide hL] at ha1 hlv HX HBX HP ⊢
  have HFB : Hid (∀ wr, Fr Z w wr → w.heap.size < wr.heap.size → True) := fun _ _ _ => trivial
  clear hp hbx hZw HFB
  go_enter Try.func8, Try.ntmps8
  go_wp2_with fail
  obtain ⟨w0, hw0⟩ : ∃ w0, Hid (w.alloc (.cells #[.slice a L acap] 28) = w0) := ⟨_, hide rfl⟩
  rw [unhide hw0] at HX HBX ⊢
  go_loopg [2] L (fun gg t2 wr => ∃ (i : Nat), Hid (i + gg = L) ∧ t2 = .int .i64 (i : Int) ∧ Hid (SC Z w (.slice a L acap) f vs i wr) ∧ Hid (wr.heap[w.heap.size]? = some (.cells #[.slice a L acap] 28)))
  case atStart => exact ⟨0, by unfold Hid; omega, rfl, HX, HBX⟩
  case round =>
    clear HX HBX
    obtain ⟨i, hi, rfl, hS, hb⟩ := hrel
    obtain ⟨c1, c2, c3⟩ := blk_cells (unhide hb)
    have y0 := c1 0
    simp at y0
    clear c1 c2
    have i0 : (0 : Int) ≤ (i : Int) := by omega
    by_cases hlt : i < L
    · have i1 : (i : Int) < (L : Int) := by omega
      obtain ⟨l, hl⟩ : ∃ l, f[i]? = some l := ⟨_, List.getElem?_eq_getElem (by rw [unhide hL]; exact hlt)⟩
      obtain ⟨u, hu⟩ : ∃ u, vs[i]? = some u := ⟨_, List.getElem?_eq_getElem (by omega)⟩
      obtain ⟨G0, hG0⟩ : ∃ G0 : Nat, Hid (G0 = gk) := ⟨_, hide rfl⟩
      have HROW : Hid (∀ W, SC Z w (.slice a L acap) f vs i W → ∃ rb ro, a = some ⟨rb, ro, none⟩ ∧ rb < W.heap.size ∧ W.cell? ⟨rb, ro + i, none⟩ = some u ∧ W.frozen? ⟨rb, ro + i, none⟩ = false) := fun W hW => by
        obtain ⟨xs, h1, h2, h3⟩ := hW.row
        have hxi : xs[i]? = some u := (h3 i (Nat.le_refl _)).trans hu
        have hrx := Rx.of_ro h2
        rw [← h1] at hrx
        obtain ⟨rb, ro, cap', e, _, _, hbb, hc⟩ := hrx.elem zV hxi
        have ea : a = some ⟨rb, ro, none⟩ := by cases e; rfl
        have := hc 0 _ rfl
        rw [Nat.mul_one, Nat.add_zero] at this
        exact ⟨rb, ro, ea, hbb, this, h2.free (cap := acap) (off := ro) (by rw [ea, hlv]) _⟩
      obtain ⟨rb, ro, ea, _, _, _⟩ := unhide HROW wr (unhide hS)
      subst ea
      have HRW : Hid (∀ W, SC Z w (.slice (some ⟨rb, ro, none⟩) L acap) f vs i W → rb < W.heap.size ∧ W.cell? ⟨rb, ro + i, none⟩ = some u ∧ W.frozen? ⟨rb, ro + i, none⟩ = false) := fun W hW => by
        obtain ⟨rb', ro', e, h1, h2, h3⟩ := unhide HROW W hW
        cases e
        exact ⟨h1, h2, h3⟩
      have HL := hide hl
      have HU := hide hu
      obtain ⟨la, lc, eu, hlc1, hlc2⟩ : ∃ la lc, u = .slice la l.length lc ∧ l.length ≤ lc ∧ lc ≤ maxLen := by
        obtain ⟨l', k1, k2⟩ := (unhide hS).el i l u (Nat.le_refl _) hl hu
        obtain ⟨la, lc, e, m1, m2⟩ := k2.shape
        exact ⟨la, lc, by rw [e, k1], by omega, m2⟩
      subst eu
      unfold maxLen at hlc2
      obtain ⟨M, hMM⟩ : ∃ M, Hid (l.length = M) := ⟨_, hide rfl⟩
      have hbo : ∀ k, k = rb ∨ (∃ k', la = some ⟨k, k', none⟩) → k ≠ w.heap.size := fun k hk => by
        rcases hk with hk | ⟨k', hk⟩
        · subst hk
          have := (unhide HP).row.lt k rfl
          omega
        · have := (unhide HP).eb i _ k hu (by rw [hk]; rfl)
          omega
      have HBO := hide hbo
      rw [unhide hMM] at hlc1 HRW HU
      clear hl hu HROW hbo
      obtain ⟨rw1, rw2, rw3⟩ := unhide HRW wr (unhide hS)
      go_wp2_with fail
      clear rw1 rw2 rw3 y0 c3
      go_loopg [3] M (fun gg t3 wq => ∃ (p : Nat), Hid (p + gg = M) ∧ t3 = .int .i64 (p : Int) ∧ Hid (SC Z w (.slice (some ⟨rb, ro, none⟩) L acap) f vs i wq) ∧ Hid (wq.heap[w.heap.size]? = some (.cells #[.slice (some ⟨rb, ro, none⟩) L acap] 28)))
      case atStart => exact ⟨0, by unfold Hid; omega, rfl, hS, hb⟩
      case round =>
        clear hS hb
        obtain ⟨p, hp2, rfl, hS, hb⟩ := hrel
        obtain ⟨c1, c2, c3⟩ := blk_cells (unhide hb)
        have y0 := c1 0
        simp at y0
        clear c1 c2
        obtain ⟨rw1, rw2, rw3⟩ := unhide HRW wr (unhide hS)
        have p0 : (0 : Int) ≤ (p : Int) := by omega
        by_cases hpt : p < M
        · have p1 : (p : Int) < (M : Int) := by omega
          obtain ⟨eb, eo, ee⟩ : ∃ eb eo, la = some ⟨eb, eo, none⟩ := by
            obtain ⟨l', k1, k2⟩ := (unhide hS).el i l _ (Nat.le_refl _) (unhide HL) (unhide HU)
            obtain ⟨g, off, cap', e, _⟩ := k2.full (by rw [k1, unhide hMM]; omega)
            cases e
            exact ⟨_, _, rfl⟩
          subst ee
          have HEL : Hid (∀ W, SC Z w (.slice (some ⟨rb, ro, none⟩) L acap) f vs i W → eb < W.heap.size ∧ (∃ x, W.cell? ⟨eb, eo + p * 4, none⟩ = some (.int .i64 x)) ∧ (∃ x, W.cell? ⟨eb, eo + p * 4 + 1, none⟩ = some (.int .u16 x)) ∧ (∀ j, W.frozen? ⟨eb, j, none⟩ = false)) := fun W hW => by
            obtain ⟨l', k1, k2⟩ := hW.el i l _ (Nat.le_refl _) (unhide HL) (unhide HU)
            have hpl : p < l'.length := by rw [k1, unhide hMM]; exact hpt
            obtain ⟨b2, o2, e2, h4, x0, x1, _, _⟩ := (Rx.of_ro k2).spot (List.getElem?_eq_getElem hpl)
            cases e2
            exact ⟨h4, ⟨_, x0⟩, ⟨_, x1⟩, fun j => k2.free (cap := lc) (off := eo) (by rw [k1, unhide hMM]) j⟩
          obtain ⟨q1, ⟨x0, q2⟩, ⟨x1, q3⟩, q4⟩ := unhide HEL wr (unhide hS)
          have q5 := q4 (eo + p * 4)
          have hpl : p < l.length := by rw [unhide hMM]; exact hpt
          have hS2 := hide ((unhide hS).spot (unhide HP) (unhide HL) (unhide HU) rfl (p := p) (c := 0) hpl (by omega) (x := .int .i64 77) (fun s => ⟨{ s with c := 77 }, rfl⟩))
          rw [Nat.add_zero] at hS2
          have nbx : ¬ (eb = w.heap.size) := unhide HBO eb (.inr ⟨eo, rfl⟩)
          have hb2 : (wr.setCell ⟨eb, eo + p * 4, none⟩ (.int .i64 77)).heap[w.heap.size]? = some (.cells #[.slice (some ⟨rb, ro, none⟩) L acap] 28) := (Below.heap_setCell _ _ _ _ (fun e => nbx e.symm)).trans (unhide hb)
          obtain ⟨W1, hW1⟩ : ∃ W1, Hid (wr.setCell ⟨eb, eo + p * 4, none⟩ (.int .i64 77) = W1) := ⟨_, hide rfl⟩
          rw [unhide hW1] at hS2 hb2
          obtain ⟨v1, v2, v3⟩ := unhide HRW W1 (unhide hS2)
          obtain ⟨m1, ⟨z0, m2⟩, ⟨z1, m3⟩, m4⟩ := unhide HEL W1 (unhide hS2)
          have m5 := m4 (eo + p * 4 + 1)
          have hS3 := hide ((unhide hS2).spot (unhide HP) (unhide HL) (unhide HU) rfl (p := p) (c := 1) hpl (by omega) (x := .int .u16 99) (fun s => ⟨{ s with a := 99 }, rfl⟩))
          have hb3 := hide ((Below.heap_setCell W1 ⟨eb, eo + p * 4 + 1, none⟩ (.int .u16 99) _ (fun e => nbx e.symm)).trans hb2)
          obtain ⟨c1, c2, c3'⟩ := blk_cells hb2
          have y0' := c1 0
          simp at y0'
          have hW1' := unhide hW1
          clear c1 c2 q4 m4 hb2
          go_wp2_with fail
          go_roundg (gk - 1)
          case measure => have := unhide hp2; omega
          case rel => exact ⟨p + 1, by have := unhide hp2; unfold Hid; omega, by go_num, hS3, hb3⟩
        · have hpM : p = M := by have := unhide hp2; omega
          have hS4 := hide ((unhide hS).next (unhide HP) rfl (by omega))
          have nbx : ¬ (rb = w.heap.size) := unhide HBO rb (.inl rfl)
          have hb4 := hide ((Below.heap_setCell wr ⟨rb, ro + i, none⟩ (.slice none 0 0) _ (fun e => nbx e.symm)).trans (unhide hb))
          have p1 : ¬ (p : Int) < (M : Int) := by omega
          go_wp2_with fail
          go_roundg (G0 - 1)
          case measure => have h1 := unhide hG0; have h2 := unhide hi; omega
          case rel => exact ⟨i + 1, by have h1 := unhide hG0; have h2 := unhide hi; unfold Hid; omega, by go_num, hS4, hb4⟩
    · have i1 : ¬ (i : Int) < (L : Int) := by omega
      have HF := hide (unhide hS).fr
      go_wp2_with fail
      go_end0
      exact ⟨rfl, unhide HF⟩
end Go.Proofs.Ytjjfpokmpcpicaa
