/-
  Shapes whose slots are asked for at their sources.
-/
import Derived.Test.YtpbdmbmafjkinaaDoorSr
namespace Go.Proofs.YtpbdmbmafjkinaaDoor
open Go.RowKit
set_option linter.unusedVariables false
set_option linter.unusedSimpArgs false
/-- While shapes are copied: the first k have slots of their own. -/
structure CpS (w : World) (l : List Sh) (rs0 : List ShR) (v : Value) (k : Nat) (rs : List ShR) (wr : World) : Prop where
  bl : Below w.heap.size w wr
  len : rs.length = l.length
  row : Ro wr 3 v l.length (flt enSh rs)
  rb : ∀ b, v.ownBlock = some b → w.heap.size ≤ b
  old : ∀ j, k ≤ j → rs[j]? = rs0[j]?
  new : ∀ (j : Nat) (s : Sh) (r : ShR), j < k → l[j]? = some s → rs[j]? = some r → r.fn = s.fn ∧ r.pc = s.pc ∧ Ro wr 2 r.v s.sl.length (flt enO s.sl)
  nb : ∀ (j : Nat) (r : ShR) (b : Nat), j < k → rs[j]? = some r → r.v.ownBlock = some b → w.heap.size ≤ b ∧ b < wr.heap.size ∧ v.ownBlock ≠ some b
  ap : ∀ (i j : Nat) (r q : ShR) (b : Nat), i < k → j < k → i ≠ j → rs[i]? = some r → rs[j]? = some q → r.v.ownBlock = some b → q.v.ownBlock ≠ some b
theorem CpS.on {w : World} {l : List Sh} {rs0 : List ShR} {v : Value} {k : Nat} {rs : List ShR} {wr w' : World} (h : CpS w l rs0 v k rs wr) (b : Below wr.heap.size wr w') : CpS w l rs0 v k rs w' := by
  have f : Fr (fun _ => False) wr w' := Fr.of_below b
  exact ⟨bl_past h.bl b, h.len, h.row.fr f (fun _ _ e => e), h.rb, h.old, fun j s r hj hs hr => ⟨(h.new j s r hj hs hr).1, (h.new j s r hj hs hr).2.1, (h.new j s r hj hs hr).2.2.fr f (fun _ _ e => e)⟩, fun j r c hj hr hc => ⟨(h.nb j r c hj hr hc).1, Nat.lt_of_lt_of_le (h.nb j r c hj hr hc).2.1 b.size, (h.nb j r c hj hr hc).2.2⟩, h.ap⟩
/-- One more. -/
theorem CpS.step {w : World} {l : List Sh} {rs0 : List ShR} {v : Value} {k : Nat} {rs : List ShR} {wr w1 : World} (h : CpS w l rs0 v k rs wr) {s : Sh} {r : ShR} {u : Value} (hs : l[k]? = some s) (hr : rs[k]? = some r) (e1 : r.fn = s.fn) (e2 : r.pc = s.pc) (hG : Gx wr 2 enO s.sl u w1) {g off cap : Nat} (e : v = .slice (some ⟨g, off, none⟩) l.length cap) :
    CpS w l rs0 v (k + 1) (rs.set k ⟨r.fn, r.pc, u⟩) (w1.setCell ⟨g, off + k * 3 + 2, none⟩ u) := by
  have h1 := h.on hG.2.1
  have hk := (List.getElem?_eq_some_iff.1 hr).1
  have hl := h.len
  obtain ⟨r1, t1⟩ := h1.row.put1 zSh e (i := k) (c := 2) (x' := ⟨r.fn, r.pc, u⟩) (u := u) hr (by omega) rfl
  have hg : w.heap.size ≤ g := h.rb g (by rw [e]; rfl)
  have hgl : g < wr.heap.size := h.row.lt g (by rw [e]; rfl)
  have hgw : g < w1.heap.size := h1.row.lt g (by rw [e]; rfl)
  have hun : ∀ b, u.ownBlock = some b → wr.heap.size ≤ b := hG.2.2
  have hul : ∀ b, u.ownBlock = some b → b < w1.heap.size := fun b hb => hG.1.lt b hb
  refine ⟨h1.bl.trans (t1.below h1.bl.size (fun b hb q => by have q' : b = g := q; omega)), by rw [List.length_set]; exact hl, r1, h.rb, fun j hj => by rw [List.getElem?_set_ne (by omega)]; exact h.old j (by omega), fun j s' r' hj hs' hr' => ?_, fun j r' b hj hr' hb => ?_, fun i j r' q b hi hj hij hri hqj hb => ?_⟩
  · by_cases q : k = j
    · subst q
      rw [hs] at hs'
      cases hs'
      rw [List.getElem?_set_self hk] at hr'
      cases hr'
      exact ⟨e1, e2, hG.1.fr t1 (fun b hb q => by have q' : b = g := q; have := hun b hb; omega)⟩
    · rw [List.getElem?_set_ne q] at hr'
      obtain ⟨a1, a2, a3⟩ := h1.new j s' r' (by omega) hs' hr'
      exact ⟨a1, a2, a3.fr t1 (fun b hb q => by have q' : b = g := q; subst q'; exact (h1.nb j r' b (by omega) hr' hb).2.2 (by rw [e]; rfl))⟩
  · have hsz := t1.size
    by_cases q : k = j
    · subst q
      rw [List.getElem?_set_self hk] at hr'
      cases hr'
      have c1 := hun b hb
      have c2 := hul b hb
      have c3 := h.bl.size
      exact ⟨by omega, by omega, fun q => by rw [e] at q; have : g = b := Option.some.inj q; omega⟩
    · rw [List.getElem?_set_ne q] at hr'
      obtain ⟨a1, a2, a3⟩ := h1.nb j r' b (by omega) hr' hb
      exact ⟨a1, by omega, a3⟩
  · by_cases qi : k = i
    · subst qi
      rw [List.getElem?_set_self hk] at hri
      cases hri
      rw [List.getElem?_set_ne hij] at hqj
      intro hq
      have c1 := hun b hb
      have c2 := (h.nb j q b (by omega) hqj hq).2.1
      omega
    · rw [List.getElem?_set_ne qi] at hri
      by_cases qj : k = j
      · subst qj
        rw [List.getElem?_set_self hk] at hqj
        cases hqj
        intro hq
        have c1 := hun b hq
        have c2 := (h.nb i r' b (by omega) hri hb).2.1
        omega
      · rw [List.getElem?_set_ne qj] at hqj
        exact h.ap i j r' q b (by omega) (by omega) hij hri hqj hb
theorem Mv.bel {U R : Type} {P : (Nat → Prop) → World → U → R → Prop} (hP : Mv P) {D : Nat → Prop} {w w' : World} {u : U} {r : R} (h : P D w u r) (b : Below w.heap.size w w') : P D w' u r :=
  hP D D (fun _ => False) w w' u r h (Fr.of_below b) (fun _ _ e => ⟨fun q => q, e⟩)
theorem oneO (l : List Op) : ∀ u ∈ flt enO l, u.oneCell' = true := fun u hu => by
  obtain ⟨x, _, h2⟩ := List.mem_flatMap.1 hu
  simp only [enO, List.mem_cons, List.not_mem_nil, or_false] at h2
  rcases h2 with rfl | rfl <;> rfl
set_option maxRecDepth 100000 in
set_option maxHeartbeats 3200000 in
theorem copied_any {w : World} {D : Nat → Prop} {l : List Sh} {v : Value} (h : ShsV D w l v) (hN : l.length ≤ 1048576) (hM : ∀ s ∈ l, s.sl.length ≤ 1048576) :
    Calls Tryd.prog 54 #[v] w fun e w' => ∃ v' rs0 rs, e = .returned v' ∧ CpS w l rs0 v' l.length rs w' := by
  obtain ⟨rs0, h1, h2, h3⟩ := h
  have hone : ∀ u ∈ flt enSh rs0, u.oneCell' = true := fun u hu => by
    obtain ⟨x, hx, h4⟩ := List.mem_flatMap.1 hu
    obtain ⟨i, hi, rfl⟩ := List.getElem_of_mem hx
    have hil : i < l.length := by omega
    have h5 := h3 i _ _ (List.getElem?_eq_getElem hil) (List.getElem?_eq_getElem hi)
    obtain ⟨a, c, e, _, _⟩ := h5.2.2.1.shape
    simp only [enSh, List.mem_cons, List.not_mem_nil, or_false] at h4
    rcases h4 with rfl | rfl | rfl
    · rfl
    · rfl
    · rw [e]; rfl
  have HC := hide (cloneS_any (w := w) (v := v) (l := rs0) (by rw [h1]; exact h2.1) hone (by omega))
  have H3 := hide h3
  have HM := hide hM
  have H1 := hide h1
  obtain ⟨a, c, ev, ha1, ha2⟩ := h2.1.shape
  subst ev
  clear h2 h3 hM hone
  obtain ⟨L, hL⟩ : ∃ L, Hid (l.length = L) := ⟨_, hide rfl⟩
  rw [unhide hL] at HC hN ha1 ⊢
  go_enter Tryd.func54, Tryd.ntmps54
  go_wp2_with fail
  refine (unhide HC).mono ?_
  rintro e w1 ⟨v', rfl, hG⟩
  have HS : Hid (CpS w l rs0 v' 0 rs0 w1) := ⟨hG.2.1, h1, by rw [← h1]; exact hG.1, hG.2.2, fun _ _ => rfl, fun j s r hj => absurd hj (by omega), fun j r b hj => absurd hj (by omega), fun i j r q b hi => absurd hi (by omega)⟩
  obtain ⟨a', c', ev, hb1, hb2⟩ := (unhide HS).row.shape
  rw [unhide hL] at ev hb1
  subst ev
  unfold maxLen at hb2
  clear hG HC
  go_wp2_with fail
  go_loopg [8] L (fun gg t8 wr => ∃ (k : Nat) (rs : List ShR), Hid (k + gg = L) ∧ t8 = .int .i64 (k : Int) ∧ Hid (CpS w l rs0 (.slice a' L c') k rs wr))
  case atStart => exact ⟨0, rs0, by unfold Hid; omega, rfl, HS⟩
  case round =>
    clear HS
    obtain ⟨k, rs, hk, rfl, hS⟩ := hrel
    by_cases hlt : k < L
    · have i0 : (0 : Int) ≤ (k : Int) := by omega
      have i1 : (k : Int) < (L : Int) := by omega
      obtain ⟨s, hs⟩ : ∃ s, l[k]? = some s := ⟨_, List.getElem?_eq_getElem (by rw [unhide hL]; exact hlt)⟩
      obtain ⟨r, hr⟩ : ∃ r, rs[k]? = some r := ⟨_, List.getElem?_eq_getElem (by rw [(unhide hS).len, unhide hL]; exact hlt)⟩
      have hr0 : rs0[k]? = some r := by rw [← (unhide hS).old k (Nat.le_refl _)]; exact hr
      obtain ⟨e1, e2, hop⟩ := unhide H3 k s r hs hr0
      have hrow : Ro wr 3 (.slice a' L c') rs.length (flt enSh rs) := by rw [(unhide hS).len]; exact (unhide hS).row
      obtain ⟨g, off, cc, eg, _, _, hgl, hgc⟩ := (Rx.of_ro hrow).elem zSh hr
      obtain ⟨e5, e6⟩ : a' = some ⟨g, off, none⟩ ∧ c' = cc := by cases eg; exact ⟨rfl, rfl⟩
      subst e5
      subst e6
      clear eg
      obtain ⟨ra, rc, er, hr1, hr2⟩ := hop.1.shape
      obtain ⟨rfn, rpc, rv⟩ := r
      simp only at er e1 e2
      subst er
      have q2 : wr.cell? ⟨g, off + k * 3 + 2, none⟩ = some (.slice ra s.sl.length rc) := hgc 2 _ rfl
      obtain ⟨SL, hSL⟩ : ∃ z, Hid (s.sl.length = z) := ⟨_, hide rfl⟩
      have HCL := hide (cloneO_any (hop.1.below (unhide hS).bl (Nat.le_refl _)) (oneO s.sl) (unhide HM s (List.mem_of_getElem? hs)))
      simp only at HCL
      rw [unhide hSL] at q2 HCL
      have HFR := hide ((unhide hS).row.free (g := g) (off := off) (cap := c') (by rw [unhide hL]))
      have HSS := hide hs
      have HRR := hide hr
      clear hrow hgc hop hr0 hs hr
      go_wp2_with fail
      clear q2
      refine (unhide HCL).mono ?_
      rintro e w2 ⟨u, rfl, hG⟩
      obtain ⟨ua, uc, eu, _, _⟩ := hG.1.shape
      have HST := hide ((unhide hS).step (unhide HSS) (unhide HRR) e1 e2 hG (by rw [unhide hL]))
      have h2 := (unhide hS).on hG.2.1
      obtain ⟨b3, o3, c3, e3, _, _, hl3, hc3⟩ := (Rx.of_ro (show Ro w2 3 (.slice (some ⟨g, off, none⟩) L c') rs.length (flt enSh rs) by rw [h2.len]; exact h2.row)).elem zSh (unhide HRR)
      cases e3
      have q3 : w2.cell? ⟨g, off + k * 3 + 2, none⟩ = some (.slice ra SL rc) := by have := hc3 2 _ rfl; rw [← unhide hSL]; exact this
      have g3 : w2.frozen? ⟨g, off + k * 3 + 2, none⟩ = false := h2.row.free (g := g) (off := off) (cap := c') (by rw [unhide hL]) _
      rw [unhide hSL] at eu
      subst eu
      clear hG h2 hc3
      go_wp2_with fail
      go_roundg (gk - 1)
      case measure => have := unhide hk; omega
      case rel => exact ⟨k + 1, _, by have := unhide hk; unfold Hid; omega, by go_num, HST⟩
    · have hkL : k = L := by have := unhide hk; omega
      subst hkL
      have i1 : ¬ (k : Int) < (k : Int) := by omega
      go_wp2_with fail
      go_ret
      first | exact ⟨_, rs0, rs, rfl, unhide hS⟩ | exact ⟨_, rfl, rs0, rs, unhide hS⟩
end Go.Proofs.YtpbdmbmafjkinaaDoor
