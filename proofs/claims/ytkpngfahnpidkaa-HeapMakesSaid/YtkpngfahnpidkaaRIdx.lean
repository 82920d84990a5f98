/-
  Where a key stands; slices.Index; the field of a key.
-/
import Derived.Test.YtkpngfahnpidkaaPMake
namespace Go.Proofs.Ytkpngfahnpidkaa
open Go.RowKit
set_option linter.unusedVariables false
set_option linter.unusedSimpArgs false

/-- The first place of a key. -/
def fx : List Int → Int → Option Nat
  | [], _ => none
  | r :: rs, s => if r = s then some 0 else (fx rs s).map (· + 1)
theorem fx_none {rs : List Int} {s : Int} : fx rs s = none ↔ s ∉ rs := by
  induction rs with
  | nil => simp [fx]
  | cons r rs ih =>
    unfold fx
    by_cases h : r = s
    · simp [h]
    · have h2 : ¬ s = r := fun e => h e.symm
      simp [h, h2, ih]
theorem fx_some {s : Int} : ∀ {rs : List Int} {i : Nat}, fx rs s = some i → rs[i]? = some s ∧ ∀ j, j < i → rs[j]? ≠ some s
  | [], i, h => by simp [fx] at h
  | r :: rs, i, h => by
    unfold fx at h
    by_cases e : r = s
    · rw [if_pos e] at h
      cases h
      exact ⟨by simp [e], fun j hj => by omega⟩
    · rw [if_neg e] at h
      cases h2 : fx rs s with
      | none => rw [h2] at h; cases h
      | some j =>
        rw [h2] at h
        cases h
        obtain ⟨h3, h4⟩ := fx_some h2
        refine ⟨by simpa using h3, fun j' hj => ?_⟩
        cases j' with
        | zero => simpa using e
        | succ j' =>
          have hj' : j' + 1 < j + 1 := hj
          simpa using h4 j' (by omega)
theorem fx_lt {rs : List Int} {s : Int} {i : Nat} (h : fx rs s = some i) : i < rs.length := (List.getElem?_eq_some_iff.1 (fx_some h).1).1
theorem fx_of {s : Int} {rs : List Int} {i : Nat} (h : rs[i]? = some s) (hf : ∀ j, j < i → rs[j]? ≠ some s) : fx rs s = some i := by
  cases e : fx rs s with
  | none => exact absurd (List.mem_of_getElem? h) (fx_none.1 e)
  | some j =>
    obtain ⟨h1, h2⟩ := fx_some e
    rcases Nat.lt_trichotomy i j with q | q | q
    · exact absurd h (h2 i q)
    · rw [q]
    · exact absurd h1 (hf j q)
/-- .. as Index answers it. -/
def fxI (rs : List Int) (s : Int) : Int := match fx rs s with | some i => (i : Int) | none => -1
theorem kcells_at (l : List Int) (i : Nat) (p : Int) (h : l[i]? = some p) : (kcells l)[i]? = some (.int .i64 p) := by unfold kcells; rw [List.getElem?_map, h]; rfl
theorem Ro.key {w : World} {v : Value} {ks : List Int} (h : Ro w 1 v ks.length (kcells ks)) {i : Nat} {p : Int} (hp : ks[i]? = some p) :
    ∃ g off cap, v = .slice (some ⟨g, off, none⟩) ks.length cap ∧ ks.length ≤ cap ∧ cap ≤ maxLen ∧ g < w.heap.size ∧ w.cell? ⟨g, off + i, none⟩ = some (.int .i64 p) := by
  have hi := (List.getElem?_eq_some_iff.1 hp).1
  obtain ⟨g, off, cap, e, h1, h2, h3, h4⟩ := h.full (by omega)
  exact ⟨g, off, cap, e, h1, h2, h3, by rw [h4 i (by omega)]; exact kcells_at ks i p hp⟩
set_option maxRecDepth 100000 in
set_option maxHeartbeats 1600000 in
theorem index_any {w : World} {v : Value} {ks : List Int} (h : Ro w 1 v ks.length (kcells ks)) (key : Int) : Calls Try.prog 60 #[v, .int .i64 key] w fun e w' => e = .returned (.int .i64 (fxI ks key)) ∧ w' = w := by
  obtain ⟨a, cap, ev, hlc, hcm⟩ := h.shape
  have HK := hide (fun i p (hp : ks[i]? = some p) => h.key hp)
  subst ev
  obtain ⟨L, hL⟩ : ∃ L, Hid (ks.length = L) := ⟨_, rfl⟩
  rw [unhide hL] at hlc HK ⊢
  unfold maxLen at hcm
  clear h
  go_enter Try.func60, Try.ntmps60
  go_wp2_with fail
  go_loopg [8] L (fun g t8 wr => ∃ (i : Nat), Hid (i + g = L) ∧ t8 = .int .i64 (i : Int) ∧ wr = w ∧ Hid (∀ j, j < i → ks[j]? ≠ some key))
  case atStart => exact ⟨0, by unfold Hid; omega, rfl, rfl, fun j hj => by omega⟩
  case round =>
    obtain ⟨i, hi, rfl, rfl, hno⟩ := hrel
    by_cases hlt : i < L
    · have hil : i < ks.length := by rw [unhide hL]; exact hlt
      obtain ⟨p, hp⟩ : ∃ p, ks[i]? = some p := ⟨_, List.getElem?_eq_getElem hil⟩
      obtain ⟨g, off, cap', e, _, _, hgl, hcell⟩ := unhide HK i p hp
      cases e
      have i0 : (0 : Int) ≤ (i : Int) := by omega
      have i1 : (i : Int) < (L : Int) := by omega
      have HP := hide hp
      clear hp
      by_cases hq : p = key
      · subst hq
        have hfx : fxI ks p = (i : Int) := by unfold fxI; rw [fx_of (unhide HP) (unhide hno)]
        have HFX := hide hfx
        clear hfx
        go_wp2_with fail
        go_ret
        exact ⟨by rw [unhide HFX]; rfl, rfl⟩
      · have d1 : (key == p) = false := by simp; omega
        have d2 : decide (key = p) = false := decide_eq_false (by omega)
        have hno2 : Hid (∀ j, j < i + 1 → ks[j]? ≠ some key) := fun j hj => by
          by_cases e : j = i
          · rw [e, unhide HP]; simpa using hq
          · exact unhide hno j (by omega)
        go_wp2_with fail
        go_roundg (gk - 1)
        case measure => have := unhide hi; omega
        case rel => exact ⟨i + 1, by have := unhide hi; unfold Hid; omega, by go_num, rfl, hno2⟩
    · have hiL : i = L := by have := unhide hi; omega
      subst hiL
      have hfx : fxI ks key = -1 := by
        unfold fxI
        cases e : fx ks key with
        | none => rfl
        | some j => exact absurd (fx_some e).1 (unhide hno j (by have := fx_lt e; rw [unhide hL] at this; exact this))
      have HFX := hide hfx
      clear hfx
      go_wp2_with fail
      go_ret
      exact ⟨by rw [unhide HFX]; rfl, rfl⟩
theorem rec_cells {w : World} {o : OD} (h : o.ok w) (hk : o.k = 7) : w.cell? ⟨o.b, 0, none⟩ = some o.kv ∧ w.cell? ⟨o.b, 1, none⟩ = some o.iv :=
  ⟨h.cell 0 _ (by simp [OD.cells, hk]), h.cell 1 _ (by simp [OD.cells, hk])⟩
/-- field, of a record that a value names. -/
def fieldV (b : Nat) (o : Option Nat) : Value := match o with
  | some i => .tuple #[.pointer (some ⟨b, 0, none⟩), .int .i64 (i : Int), .int .i64 0]
  | none => .tuple #[.pointer (some ⟨b, 0, none⟩), .int .i64 0, .int .i64 4]
set_option maxRecDepth 100000 in
set_option maxHeartbeats 1600000 in
theorem field_any {w : World} {h : Nat} {bud sp : Int} {ov : Value} {os : List OD} (H : Hp w h bud sp ov os) (kk n : Int) {o : OD} (hm : nm os kk n = some o) (hk : o.k = 7) (key : Int) :
    Calls Try.prog 35 #[.pointer (some ⟨h, 0, none⟩), .agg #[.int .i64 kk, .int .i64 n], .int .i64 key] w fun e w' => e = .returned (fieldV o.b (fx o.keys key)) ∧ Below w.heap.size w w' := by
  have hB : Below w.heap.size w (w.alloc (.cells #[.int .i64 kk, .int .i64 n] 33)) := (Below.refl _ _).alloc (Nat.le_refl _) _
  have HC := hide (record_hit (H.below hB) kk n hm hk)
  have HH := hide H
  have HB := hide hB
  have HK := hide (And.intro (nm_some hm).2.1 hk)
  obtain ⟨b0, b1⟩ := two_new w (.int .i64 kk) (.int .i64 n) 33
  have hl := H.hlt
  clear H hB hm hk
  cases e : fx o.keys key with
  | some i =>
    unfold fieldV
    go_enter Try.func35, Try.ntmps35
    go_wp2_with fail
    refine (unhide HC).mono ?_
    rintro e1 w1 ⟨rfl, hb1⟩
    have hb2 := (unhide HB).trans (hb1.mono (unhide HB).size)
    obtain ⟨ho, hk⟩ := unhide HK
    have H1 := (unhide HH).below hb2
    have hok := H1.ok _ _ ho
    obtain ⟨c0, c1⟩ := rec_cells hok hk
    have HI := index_any hok.keys key
    rw [show fxI o.keys key = (i : Int) by unfold fxI; rw [e]] at HI
    obtain ⟨ka, kc, ke, _⟩ := hok.keys.shape
    rw [ke] at c0 HI
    have HI := hide HI
    have hbl : o.b < w1.heap.size := hok.lt _ (.inl rfl)
    have HB2 := hide hb2
    have d0 : decide (((i : Nat) : Int) < 0) = false := decide_eq_false (by omega)
    clear H1 hok ke hb1 hb2 ho hk c1
    go_wp2_with fail
    refine (unhide HI).mono ?_
    rintro e2 w2 ⟨rfl, rfl⟩
    go_wp2_with fail
    go_returns
    exact ⟨rfl, unhide HB2⟩
  | none =>
    unfold fieldV
    go_enter Try.func35, Try.ntmps35
    go_wp2_with fail
    refine (unhide HC).mono ?_
    rintro e1 w1 ⟨rfl, hb1⟩
    have hb2 := (unhide HB).trans (hb1.mono (unhide HB).size)
    obtain ⟨ho, hk⟩ := unhide HK
    have H1 := (unhide HH).below hb2
    have hok := H1.ok _ _ ho
    obtain ⟨c0, c1⟩ := rec_cells hok hk
    have HI := index_any hok.keys key
    rw [show fxI o.keys key = -1 by unfold fxI; rw [e]] at HI
    obtain ⟨ka, kc, ke, _⟩ := hok.keys.shape
    rw [ke] at c0 HI
    have HI := hide HI
    have hbl : o.b < w1.heap.size := hok.lt _ (.inl rfl)
    have HB2 := hide hb2
    clear H1 hok ke hb1 hb2 ho hk c1
    go_wp2_with fail
    refine (unhide HI).mono ?_
    rintro e2 w2 ⟨rfl, rfl⟩
    go_wp2_with fail
    go_returns
    exact ⟨rfl, unhide HB2⟩
end Go.Proofs.Ytkpngfahnpidkaa
