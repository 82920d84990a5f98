/-
  Of what the way through a function that takes each place once finds.
-/
import Derived.Test.YtbphddocgdihjaaDoorVGue0
import Derived.Test.YtbphddocgdihjaaDoorVFitA
namespace Go.Proofs.YtbphddocgdihjaaDoor
open Go.RowKit
set_option linter.unusedVariables false
set_option linter.unusedSimpArgs false
/-- If the list fits, its ways are ways. -/
theorem Wy.mt {f : Fc} {l : List Int} (hfit : ∀ p, p < f.code.length → ∃ op a z, FitO f l p op a z) {p : Nat} {h : Int} (H : Wy f l p h) : Mt f ((p : Int), h) := by
  induction H with
  | zero e => exact .zero
  | @next p q h op a v hp h1 h2 h3 h4 e ih =>
    refine .next ih h1 ?_
    obtain ⟨op', a', z, F⟩ := hfit p (List.getElem?_eq_some_iff.1 h1).1
    have e1 := F.hi
    rw [h1] at e1
    cases e1
    have e2 := F.hh
    rw [hp.at.1] at e2
    cases e2
    have t1 := F.tk
    have t2 := F.pt
    unfold nx
    rw [if_neg (by omega)]
    unfold nxl at h2
    rw [List.mem_append] at h2 ⊢
    subst h3
    rcases h2 with h2 | h2
    · left
      split at h2
      · rename_i hj
        rw [if_pos hj]
        simp at h2
        subst h2
        simp
      · simp at h2
    · right
      split at h2
      · rename_i hc
        rw [if_pos (by rw [hc.1]; exact ⟨rfl, hc.2⟩)]
        simp at h2
        simp only [List.mem_singleton]
        rw [h2]
      · simp at h2
  | @hand p q h v k hp h1 h2 h3 h5 h6 h4 e ih =>
    have := Mt.hand ih h1 (by unfold hol; simp [h2, h3])
    unfold tgt at this
    rw [h5, ← h6] at this
    exact this
/-- The ways of a list lie on any list that fits. -/
theorem Wy.on {f : Fc} {l hts : List Int} (hl : hts.length = f.code.length) (h0 : hts[0]? = some 0) (hfit : ∀ p, p < f.code.length → ∃ op a z, FitO f hts p op a z) {p : Nat} {h : Int} (H : Wy f l p h) : hts[p]? = some h := by
  induction H with
  | zero e => exact h0
  | @next p q h op a v hp h1 h2 h3 h4 e ih =>
    obtain ⟨op', a', z, F⟩ := hfit p (List.getElem?_eq_some_iff.1 h1).1
    have e1 := F.hi
    rw [h1] at e1
    cases e1
    have e2 := F.hh
    rw [ih] at e2
    cases e2
    have := (F.nx _ h2).2.2
    rw [h3]
    simpa using this
  | @hand p q h v k hp h1 h2 h3 h5 h6 h4 e ih =>
    obtain ⟨op', a', z, F⟩ := hfit p (by rw [← hl]; exact (List.getElem?_eq_some_iff.1 ih).1)
    have := (F.hd k h1 h2 h3).2.2.2
    rw [h5] at this
    rw [h6]
    simpa using this
/-- If it fits, there is a way to each place. -/
theorem GuR.way {f : Fc} {l : List Int} (G : GuR f l) (hfit : ∀ p, p < f.code.length → ∃ op a z, FitO f l p op a z) : ∀ p, p < f.code.length → ∃ ht, Mt f ((p : Int), ht) := by
  intro p hp
  obtain ⟨hl, hb, G | G⟩ := G
  · exfalso
    obtain ⟨p, q, h, op, a, v, _, _, _, _, hv, e⟩ := G
    obtain ⟨op', a', z, F⟩ := hfit q (by rw [← hl]; exact (List.getElem?_eq_some_iff.1 e).1)
    have e2 := F.hh
    rw [e] at e2
    cases e2
    have := F.h0
    omega
  · obtain ⟨left, G, _⟩ := G
    obtain ⟨op', a', z, F⟩ := hfit p hp
    have hm := G.on p z F.hh F.h0
    obtain ⟨q, e, v, hw⟩ := G.rg _ hm
    have : q = p := by omega
    subst this
    exact ⟨v, hw.mt hfit⟩
/-- If heights are found, it finds just these. -/
theorem GuR.eq {f : Fc} (hf : OkF f) {l hts : List Int} (G : GuR f l) (hr : FnR f (some hts) 0 0) : l = hts := by
  obtain ⟨hl2, h0, hfit, _⟩ := fitO_of hf hr
  have hmt : ∀ (p : Nat) ht, hts[p]? = some ht ↔ Mt f ((p : Int), ht) := by
    rcases hr with h | h | h
    · cases h.2.1
    · cases h.2.1
    · obtain ⟨_, _, _, _, l, e, _, hm⟩ := h
      cases e
      exact hm
  obtain ⟨hl, hb, G | G⟩ := G
  · exfalso
    obtain ⟨p, q, h, op, a, v, hw, hi, hq, hv, hn, e⟩ := G
    have hp := hw.on hl2 h0 hfit
    obtain ⟨op', a', z, F⟩ := hfit p (List.getElem?_eq_some_iff.1 hi).1
    have e1 := F.hi
    rw [hi] at e1
    cases e1
    have e2 := F.hh
    rw [hp] at e2
    cases e2
    have := (F.nx _ hq).2.2
    rw [Int.toNat_natCast, ← hv] at this
    obtain ⟨op', a', z, F2⟩ := hfit q (by rw [← hl2]; exact (List.getElem?_eq_some_iff.1 this).1)
    have e3 := F2.hh
    rw [this] at e3
    cases e3
    have := F2.h0
    omega
  · obtain ⟨left, G, hc⟩ := G
    have key : ∀ s, Mt f s → ∃ h, l[s.1.toNat]? = some h ∧ 0 ≤ h := by
      intro s hs
      induction hs with
      | zero =>
        obtain ⟨q, e, v, hw⟩ := G.rg _ G.st
        have : q = 0 := by omega
        subst this
        exact ⟨v, hw.at⟩
      | @next p ht op a s hm hi hn ih =>
        obtain ⟨z, hz, hz0⟩ := ih
        simp only [Int.toNat_natCast] at hz
        have hcl := hc _ (G.on p z hz hz0)
        rw [Int.toNat_natCast] at hcl
        refine hcl.1 op a hi s.1 ?_
        unfold nx at hn
        split at hn
        · simp at hn
        · unfold nxl
          rw [List.mem_append] at hn ⊢
          rcases hn with hn | hn
          · left
            split at hn
            · rename_i hj
              rw [if_pos hj]; simp at hn; subst hn; simp
            · simp at hn
          · right
            split at hn
            · rename_i hj
              rw [if_pos (c := _ ∧ _) ⟨by simpa using hj.1, hj.2⟩]; simp at hn; subst hn; simp
            · simp at hn
      | @hand p ht k hm hk hh ih =>
        obtain ⟨z, hz, hz0⟩ := ih
        simp only [Int.toNat_natCast] at hz
        have hcl := hc _ (G.on p z hz hz0)
        rw [Int.toNat_natCast] at hcl
        unfold hol at hh
        simp at hh
        exact hcl.2 k hk hh.1 hh.2
    refine List.ext_getElem? fun p => ?_
    by_cases hp : p < f.code.length
    · obtain ⟨z, hz⟩ : ∃ z, hts[p]? = some z := ⟨_, List.getElem?_eq_getElem (by omega)⟩
      obtain ⟨v, hv, hv0⟩ := key _ ((hmt p z).1 hz)
      simp only [Int.toNat_natCast] at hv
      obtain ⟨q, e, v', hw⟩ := G.rg _ (G.on p v hv hv0)
      have : q = p := by omega
      subst this
      have h1 := hw.at.1
      have h2 := hw.on hl2 h0 hfit
      rw [h1, h2]
    · rw [List.getElem?_eq_none (by omega), List.getElem?_eq_none (by omega)]
end Go.Proofs.YtbphddocgdihjaaDoor
