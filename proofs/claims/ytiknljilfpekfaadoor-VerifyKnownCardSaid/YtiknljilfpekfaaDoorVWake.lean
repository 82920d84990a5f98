/-
  The closure of wake; slices.IndexFunc over handlers.
-/
import Derived.Test.YtiknljilfpekfaaDoorVMeet
namespace Go.Proofs.YtiknljilfpekfaaDoor
open Go.RowKit
set_option linter.unusedVariables false
set_option linter.unusedSimpArgs false
/-- Does a handler hold a place? -/
def hol (h : Hd) (pc : Int) : Bool := decide (h.frm ≤ pc) && decide (pc < h.to)
def tgt (h : Hd) : Spot := (h.target, h.height + 1)
noncomputable def wkM (pc : Int) (met : List Spot) (h : Hd) : List Spot := if hol h pc then mtM met (tgt h) else met
noncomputable def wkL (pc : Int) (met left : List Spot) (h : Hd) : List Spot := if hol h pc then mtL met left (tgt h) else left
abbrev fM (Z : Nat) : Value := .func (.func 27) #[] #[.pointer (some ⟨Z + 1, 0, none⟩), .pointer (some ⟨Z + 2, 0, none⟩)]
/-- The new list of what is left lies where the old one lay, or is new. -/
def nwL (X : World) (lv lv' : Value) : Prop := lv'.ownBlock = lv.ownBlock ∨ ∀ k, lv'.ownBlock = some k → X.heap.size ≤ k
theorem Fr.step {S T : Nat → Prop} {a b c : World} (h : Fr S a b) (k : Fr T b c) (hs : ∀ i, i < a.heap.size → T i → S i) : Fr S a c :=
  ⟨k.os.trans h.os, k.tape.trans h.tape, k.output.trans h.output, Nat.le_trans h.size k.size,
    fun i hi hn => (k.block i (Nat.lt_of_lt_of_le hi h.size) (fun e => hn (hs i hi e))).trans (h.block i hi hn)⟩
theorem nwL.mtS {X : World} {Z : Nat} {lv lv' : Value} (h : nwL X lv lv') : ∀ i, i < X.heap.size → mtS Z lv' i → mtS Z lv i := fun i hi e => by
  rcases e with e | e | e
  · exact .inl e
  · exact .inr (.inl e)
  · rcases h with q | q
    · exact .inr (.inr (by rw [← q]; exact e))
    · have := q i e; omega
theorem nwL.trans {X Y : World} {a b c : Value} (h : nwL X a b) (k : nwL Y b c) (hs : X.heap.size ≤ Y.heap.size) : nwL X a c := by
  rcases k with q | q
  · rcases h with q2 | q2
    · exact .inl (q.trans q2)
    · exact .inr (fun i hi => q2 i (by rw [← q]; exact hi))
  · exact .inr (fun i hi => Nat.le_trans hs (q i hi))
def OkH (h : Hd) : Prop := -9000000000000000000 ≤ h.target ∧ h.target < 9000000000000000000 ∧ -9000000000000000000 ≤ h.height ∧ h.height < 9000000000000000000
theorem OkH.tgt {h : Hd} (hk : OkH h) : OkS (tgt h) := by
  obtain ⟨h1, h2, h3, h4⟩ := hk
  exact OkS.of (by show _ ≤ h.target; omega) (by show h.target < _; omega) (by show _ ≤ h.height + 1; omega) (by show h.height + 1 < _; omega)

set_option maxRecDepth 100000 in
set_option maxHeartbeats 3200000 in
theorem wake1_any {X : World} {Z pb qb : Nat} {met left : List Spot} {lv : Value} (pc : Int) (h : Hd) (hk : OkH h) (hM : ML X Z met left lv) (hp : Bx X pb (.int .i64 pc)) (hq : Bx X qb (fM Z)) (hl : left.length < 1000000000) (hm : met.length < 1000000000) :
    Calls Tryd.prog 42 #[.agg #[.int .i64 h.frm, .int .i64 h.to, .int .i64 h.target, .int .i64 h.height], .pointer (some ⟨pb, 0, none⟩), .pointer (some ⟨qb, 0, none⟩)] X fun e X' => e = .returned (.bool (hol h pc)) ∧ ∃ lv', ML X' Z (wkM pc met h) (wkL pc met left h) lv' ∧ Fr (mtS Z lv) X X' ∧ nwL X lv lv' := by
  obtain ⟨fr, to, tg, ht⟩ := h
  obtain ⟨W1, eW1⟩ : ∃ W1, W1 = X.alloc (.cells #[.int .i64 fr, .int .i64 to, .int .i64 tg, .int .i64 ht] 53) := ⟨_, rfl⟩
  have f1 : Fr (fun _ => False) X W1 := by rw [eW1]; exact (Fr.refl _ X).alloc _
  have m1 : ML W1 Z met left lv := hM.keep f1 (fun e => e) (fun e => e) (fun e => e) (fun _ _ e => e)
  have HMT := hide (meet_any tg (ht + 1) hk.tgt m1 hl hm)
  have cp := hp.1
  have lp := hp.lt
  have cq := hq.1
  have lq := hq.lt
  have hwr : IntKind.i64.wrap (ht + 1) = ht + 1 := by obtain ⟨_, _, h3, h4⟩ := hk; simp only at h3 h4; go_arith
  have HMX := hide hM
  have HF1 := hide f1
  rw [eW1] at HMT HF1
  simp only
  clear hM f1 m1 eW1 W1 hp hq
  by_cases h1 : fr ≤ pc
  · by_cases h2 : pc < to
    · have hh : hol ⟨fr, to, tg, ht⟩ pc = true := by simp [hol, h1, h2]
      have e1 : wkM pc met ⟨fr, to, tg, ht⟩ = mtM met (tg, ht + 1) := by unfold wkM; rw [hh]; rfl
      have e2 : wkL pc met left ⟨fr, to, tg, ht⟩ = mtL met left (tg, ht + 1) := by unfold wkL; rw [hh]; rfl
      rw [hh, e1, e2]
      clear hh e1 e2
      go_enter Tryd.func42, Tryd.ntmps42
      go_wp2_with fail
      refine (unhide HMT).mono ?_
      rintro e X2 ⟨⟨v, rfl⟩, lv', hM2, hF2, hN2⟩
      have HM2 := hide hM2
      have HF2 := hide hF2
      have HN2 := hide hN2
      clear hM2 hF2 hN2 HMT
      go_wp2_with fail
      go_ret
      refine ⟨rfl, lv', unhide HM2, ((unhide HF1).mono (fun _ _ e => e.elim)).trans (unhide HF2), ?_⟩
      exact (unhide HN2).elim .inl (fun q => .inr (fun k hk => Nat.le_trans (unhide HF1).size (q k hk)))
    · have hh : hol ⟨fr, to, tg, ht⟩ pc = false := by simp [hol, h2]
      have e1 : wkM pc met ⟨fr, to, tg, ht⟩ = met := by unfold wkM; rw [hh]; rfl
      have e2 : wkL pc met left ⟨fr, to, tg, ht⟩ = left := by unfold wkL; rw [hh]; rfl
      rw [hh, e1, e2]
      clear hh e1 e2 HMT
      go_enter Tryd.func42, Tryd.ntmps42
      go_wp2_with fail
      go_ret
      exact ⟨rfl, lv, (unhide HMX).keep (unhide HF1) (fun e => e) (fun e => e) (fun e => e) (fun _ _ e => e), (unhide HF1).mono (fun _ _ e => e.elim), .inl rfl⟩
  · have hh : hol ⟨fr, to, tg, ht⟩ pc = false := by simp [hol, h1]
    have e1 : wkM pc met ⟨fr, to, tg, ht⟩ = met := by unfold wkM; rw [hh]; rfl
    have e2 : wkL pc met left ⟨fr, to, tg, ht⟩ = left := by unfold wkL; rw [hh]; rfl
    rw [hh, e1, e2]
    clear hh e1 e2 HMT
    go_enter Tryd.func42, Tryd.ntmps42
    go_wp2_with fail
    go_ret
    exact ⟨rfl, lv, (unhide HMX).keep (unhide HF1) (fun e => e) (fun e => e) (fun e => e) (fun _ _ e => e), (unhide HF1).mono (fun _ _ e => e.elim), .inl rfl⟩

abbrev fW (pb qb : Nat) : Value := .func (.func 42) #[] #[.pointer (some ⟨pb, 0, none⟩), .pointer (some ⟨qb, 0, none⟩)]
/-- Where a handler that holds the place stands first. -/
def ixh (pc : Int) (hs : List Hd) : Int := match hs.findIdx? (fun h => hol h pc) with | some i => (i : Int) | none => -1
theorem ixh_hit {pc : Int} {xs : List Hd} {i : Nat} {h : Hd} (hx : xs[i]? = some h) (hh : hol h pc = true) (hno : ∀ j y, j < i → xs[j]? = some y → hol y pc = false) : ixh pc xs = (i : Int) := by
  unfold ixh
  have : xs.findIdx? (fun h => hol h pc) = some i := by
    rw [List.findIdx?_eq_some_iff_getElem]
    obtain ⟨hi, e⟩ := List.getElem?_eq_some_iff.1 hx
    refine ⟨hi, by rw [e]; exact hh, fun j hj => ?_⟩
    have := hno j _ hj (List.getElem?_eq_getElem (by omega))
    simp [this]
  rw [this]
theorem ixh_miss {pc : Int} {xs : List Hd} (hno : ∀ j y, j < xs.length → xs[j]? = some y → hol y pc = false) : ixh pc xs = -1 := by
  unfold ixh
  have : xs.findIdx? (fun h => hol h pc) = none := by
    rw [List.findIdx?_eq_none_iff]
    intro y hy
    obtain ⟨j, hj, e⟩ := List.getElem_of_mem hy
    have := hno j y hj (by rw [← e]; exact List.getElem?_eq_getElem hj)
    simp [this]
  rw [this]
/-- The state on the way. -/
structure WkS (X : World) (Z pb qb : Nat) (pc : Int) (met left : List Spot) (lv0 lv : Value) (X0 : World) : Prop where
  ml : ML X Z met left lv
  fr : Fr (mtS Z lv0) X0 X
  nw : nwL X0 lv0 lv
  bp : Bx X pb (.int .i64 pc)
  bq : Bx X qb (fM Z)
set_option maxRecDepth 100000 in
set_option maxHeartbeats 3200000 in
theorem ixFunc_any {X : World} {Z pb qb : Nat} {met left : List Spot} {lv iv : Value} {hs : List Hd} (pc : Int) (hM : ML X Z met left lv) (hp : Bx X pb (.int .i64 pc)) (hq : Bx X qb (fM Z)) (hi : Ro X 4 iv hs.length (flt enH hs)) (hk : ∀ h ∈ hs, OkH h)
    (np : ¬ mtS Z lv pb) (nq : ¬ mtS Z lv qb) (ni : ∀ k, iv.ownBlock = some k → ¬ mtS Z lv k) (hl : left.length < 1000000000) (hm : met.length < 1000000000) :
    Calls Tryd.prog 53 #[iv, fW pb qb] X fun e X' => e = .returned (.int .i64 (ixh pc hs)) ∧ ∃ lv', Fr (mtS Z lv) X X' ∧ nwL X lv lv' ∧ ((∀ h ∈ hs, hol h pc = false) ∧ ML X' Z met left lv' ∨ ∃ (i : Nat) (h : Hd), hs[i]? = some h ∧ ixh pc hs = (i : Int) ∧ hol h pc = true ∧ (∀ (j : Nat) (y : Hd), j < i → hs[j]? = some y → hol y pc = false) ∧ ML X' Z (wkM pc met h) (wkL pc met left h) lv') := by
  have HI := hide (fun i h (hx : hs[i]? = some h) => Rx.elem zH (Rx.of_ro hi) hx)
  obtain ⟨ia, ic, rfl, _, icm⟩ := hi.shape
  obtain ⟨L, hL⟩ : ∃ L, Hid (hs.length = L) := ⟨_, rfl⟩
  have hLm : L ≤ maxLen := by rw [← unhide hL]; omega
  unfold maxLen at hLm
  have HNI := hide ni
  have HK := hide hk
  have H0 : Hid (WkS X Z pb qb pc met left lv lv X) := ⟨hM, Fr.refl _ _, .inl rfl, hp, hq⟩
  obtain ⟨R, hR⟩ : ∃ R, Hid (ixh pc hs = R) := ⟨_, rfl⟩
  rw [unhide hR]
  rw [unhide hL] at HI HNI ⊢
  have HNP := hide np
  have HNQ := hide nq
  have HPL := hide hp.lt
  have HQL := hide hq.lt
  clear hM hp hq hi hk ni np nq icm
  go_enter Tryd.func53, Tryd.ntmps53
  go_wp2_with fail
  go_loopg [5, 8] L (fun gg t5 t8 wr => ∃ (i : Nat) (u : Value), Hid (i + gg = L) ∧ t5 = u ∧ t8 = .int .i64 (i : Int) ∧ Hid (∀ j y, j < i → hs[j]? = some y → hol y pc = false) ∧ Hid (∃ lv1, WkS wr Z pb qb pc met left lv lv1 X))
  case atStart => exact ⟨0, _, by unfold Hid; omega, rfl, rfl, by unfold Hid; intro j y hj; omega, lv, H0⟩
  case round =>
    obtain ⟨i, u, hi, rfl, rfl, hno, hW⟩ := hrel
    obtain ⟨lv1, hW1⟩ := unhide hW
    by_cases hlt : i < L
    · obtain ⟨h, hx⟩ : ∃ h, hs[i]? = some h := ⟨_, List.getElem?_eq_getElem (by rw [unhide hL]; exact hlt)⟩
      obtain ⟨b, off, c', e, _, _, hb, hc⟩ := unhide HI i h hx
      cases e
      have nb : ¬ mtS Z lv b := unhide HNI b rfl
      have k0 := (hW1.fr.cell (a := ⟨b, off + i * 4 + 0, none⟩) hb nb).trans (hc 0 _ rfl)
      have k1 := (hW1.fr.cell (a := ⟨b, off + i * 4 + 1, none⟩) hb nb).trans (hc 1 _ rfl)
      have k2 := (hW1.fr.cell (a := ⟨b, off + i * 4 + 2, none⟩) hb nb).trans (hc 2 _ rfl)
      have k3 := (hW1.fr.cell (a := ⟨b, off + i * 4 + 3, none⟩) hb nb).trans (hc 3 _ rfl)
      rw [Nat.add_zero] at k0
      have hbr := Nat.lt_of_lt_of_le hb hW1.fr.size
      have i0 : (0 : Int) ≤ (i : Int) := by omega
      have i1 : (i : Int) < (L : Int) := by omega
      have HX := hide hx
      have HC := hide (wake1_any pc h (unhide HK h (List.mem_of_getElem? hx)) hW1.ml hW1.bp hW1.bq hl hm)
      have HW1 := hide hW1
      clear hc hx hW1 nb hW
      go_wp2_with fail
      refine (unhide HC).mono ?_
      rintro e X2 ⟨rfl, lv2, hM2, hF2, hN2⟩
      have hW1 := unhide HW1
      have hF3 : Fr (mtS Z lv) X X2 := hW1.fr.step hF2 hW1.nw.mtS
      have hN3 : nwL X lv lv2 := hW1.nw.trans hN2 hW1.fr.size
      have hp3 : Bx X2 pb (.int .i64 pc) := hW1.bp.keep hF2 (fun e => unhide HNP (hW1.nw.mtS pb (unhide HPL) e))
      have hq3 : Bx X2 qb (fM Z) := hW1.bq.keep hF2 (fun e => unhide HNQ (hW1.nw.mtS qb (unhide HQL) e))
      have HM2 := hide hM2
      have HF3 := hide hF3
      have HN3 := hide hN3
      have HB3 := hide (And.intro hp3 hq3)
      clear hM2 hF2 hN2 hF3 hN3 hp3 hq3 hW1 HC k0 k1 k2 k3
      cases hh : hol h pc with
      | true =>
        have hRi : R = (i : Int) := by rw [← unhide hR]; exact ixh_hit (unhide HX) hh (unhide hno)
        subst hRi
        have HH := hide hh
        clear hh
        go_wp2_with fail
        go_ret
        exact ⟨rfl, lv2, unhide HF3, unhide HN3, .inr ⟨i, h, unhide HX, rfl, unhide HH, unhide hno, unhide HM2⟩⟩
      | false =>
        have HH := hide hh
        have e1 : wkM pc met h = met := by unfold wkM; rw [hh]; rfl
        have e2 : wkL pc met left h = left := by unfold wkL; rw [hh]; rfl
        rw [e1, e2] at HM2
        clear hh e1 e2
        go_wp2_with fail
        go_roundg (gk - 1)
        case measure => have := unhide hi; omega
        case rel => exact ⟨i + 1, _, by have := unhide hi; unfold Hid; omega, rfl, by go_num, by
          unfold Hid
          intro j y hj hy
          by_cases q : j = i
          · subst q; rw [unhide HX] at hy; cases hy; exact unhide HH
          · exact unhide hno j y (by omega) hy, lv2, ⟨unhide HM2, unhide HF3, unhide HN3, (unhide HB3).1, (unhide HB3).2⟩⟩
    · have hall : ∀ h ∈ hs, hol h pc = false := fun h hm => by
        obtain ⟨j, hj, e⟩ := List.getElem_of_mem hm
        exact unhide hno j h (by have := unhide hi; rw [unhide hL] at hj; omega) (by rw [← e]; exact List.getElem?_eq_getElem hj)
      have hRi : R = -1 := by rw [← unhide hR]; exact ixh_miss (fun j y hj hy => hall y (List.mem_of_getElem? hy))
      subst hRi
      have i1 : ¬ (i : Int) < (L : Int) := by omega
      have HALL := hide hall
      have HW1 := hide hW1
      clear hall hW1 hW
      go_wp2_with fail
      go_ret
      exact ⟨rfl, (unhide HW1).fr, lv1, (unhide HW1).nw, unhide HALL, (unhide HW1).ml⟩
end Go.Proofs.YtiknljilfpekfaaDoor
