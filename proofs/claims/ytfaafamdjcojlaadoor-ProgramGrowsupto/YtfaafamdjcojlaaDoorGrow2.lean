/-
  What a right program may become, and stay right.
-/
import Derived.Test.YtfaafamdjcojlaaDoorGrow1
namespace Go.Proofs.YtfaafamdjcojlaaDoor
open Go.RowKit
set_option linter.unusedVariables false
set_option linter.unusedSimpArgs false
set_option maxRecDepth 100000
noncomputable section
/-- An instruction that does nothing, handlers left out: it is right still. -/
theorem ckF_nop {p : Pg} (hg : ckF p = none) {k pc : Nat} {f : Fc} {hs : List Hd} (hk : p.funcs[k]? = some f) (hh : ∀ h ∈ hs, h ∈ f.hs) (hl : hs.length ≤ f.hs.length) : ckF { p with funcs := p.funcs.set k { f with code := f.code.set pc (0, 0), hs := hs } } = none := by
  refine ckF_okF hg hk rfl (fun t h0 => ?_)
  obtain ⟨a1, a2, a3, a4⟩ := fnF_none.1 h0
  obtain ⟨b1, b2⟩ := hsF_none.1 a4
  have hz := szF_none.1 a2
  refine fnF_none.2 ⟨a1, szF_none.2 ⟨hz.1, hz.2.1, hz.2.2.1, hz.2.2.2.1, by simpa using hz.2.2.2.2.1, by simpa using hz.2.2.2.2.2⟩, cdF_none.2 (fun j q hj => ?_), hsF_none.2 ⟨by simp only; omega, fun j g hj => ?_⟩⟩
  · have hj' : (f.code.set pc (0, 0))[j]? = some q := hj
    have hn : ∀ op a, nmB p { f with code := f.code.set pc (0, 0), hs := hs } op a = nmB p f op a := fun op a => nmB_congr (p := p) (p' := p) (f := f) (f' := { f with code := f.code.set pc (0, 0), hs := hs }) rfl rfl (by simp) rfl op a
    rw [hn]
    by_cases e : pc = j
    · subst e
      rw [List.getElem?_set_self (by have := (List.getElem?_eq_some_iff.1 hj').1; simpa using this)] at hj'
      cases hj'
      exact ⟨by decide, by unfold nmB; rw [show kdI 0 = 0 by decide]; rfl⟩
    · rw [List.getElem?_set_ne e] at hj'
      exact cdF_none.1 a3 j q hj'
  · obtain ⟨i, hi, e⟩ := List.getElem_of_mem (hh g (List.mem_of_getElem? hj))
    have := b2 i g (by rw [List.getElem?_eq_getElem hi, e])
    simpa using this
theorem nmB_mono {p p' : Pg} {f : Fc} (h1 : ∃ cs, p'.consts = p.consts ++ cs) (h2 : p.funcs.length ≤ p'.funcs.length) {op a : Int} (h : nmB p f op a = true) : nmB p' f op a = true := by
  obtain ⟨cs, hcs⟩ := h1
  unfold nmB at h ⊢
  by_cases k2 : kdI op = 2
  · rw [if_pos k2] at h ⊢; exact h
  · rw [if_neg k2] at h ⊢
    by_cases k3 : kdI op = 3
    · rw [if_pos k3] at h ⊢; exact h
    · rw [if_neg k3] at h ⊢
      by_cases k5 : kdI op = 5
      · rw [if_pos k5] at h ⊢
        have := of_decide_eq_true h
        exact decide_eq_true (by omega)
      · rw [if_neg k5] at h ⊢
        by_cases k4 : kdI op = 4
        · rw [if_pos k4] at h ⊢
          by_cases hl : a < (p.consts.length : Int)
          · rw [if_pos hl] at h
            rw [if_pos (by rw [hcs, List.length_append]; omega)]
            by_cases h5 : op = 5
            · rw [if_pos h5]
            · rw [if_neg h5] at h ⊢
              unfold ckB at h ⊢
              cases e : p.consts[a.toNat]? with
              | none => rw [e] at h; cases h
              | some c =>
                rw [e] at h
                rw [hcs, List.getElem?_append_left (List.getElem?_eq_some_iff.1 e).1, e]
                exact h
          · rw [if_neg hl] at h; cases h
        · rw [if_neg k4]
theorem fnF_mono {p p' : Pg} {f : Fc} (h1 : ∃ cs, p'.consts = p.consts ++ cs) (h2 : p.funcs.length ≤ p'.funcs.length) {m t : Bool} (h : fnF p f m t = none) : fnF p' f m t = none := by
  obtain ⟨a1, a2, a3, a4⟩ := fnF_none.1 h
  refine fnF_none.2 ⟨a1, a2, cdF_none.2 (fun j q hj => ?_), a4⟩
  have := cdF_none.1 a3 j q hj
  exact ⟨this.1, nmB_mono h1 h2 this.2⟩
theorem ckF_moreF {p : Pg} (hg : ckF p = none) {s : ByteArray} (hl : p.funcs.length < 128) (hs : spB s = true) (hz : s.size ≤ 32) (hn : ∀ f ∈ p.funcs, f.name ≠ s) : ckF { p with funcs := p.funcs ++ [⟨s, 0, 0, [(0, 0)], []⟩] } = none := by
  obtain ⟨g1, g2, g3, g4⟩ := ckF_none.1 hg
  refine ckF_none.2 ⟨g1, by simp, by simp; omega, fun j f hj => ?_⟩
  have hj' : (p.funcs ++ [(⟨s, 0, 0, [(0, 0)], []⟩ : Fc)])[j]? = some f := hj
  show fnF _ f (decide (j = 0)) (decide (∃ g ∈ (p.funcs ++ [(⟨s, 0, 0, [(0, 0)], []⟩ : Fc)]).take j, g.name = f.name)) = none
  rcases snoc_at hj' with q | ⟨q1, q2⟩
  · have hjl := (List.getElem?_eq_some_iff.1 q).1
    rw [List.take_append_of_le_length (by omega)]
    exact fnF_mono ⟨[], by simp⟩ (by simp) (g4 j f q)
  · subst q1 q2
    rw [List.take_left]
    have : decide (∃ g ∈ p.funcs, g.name = s) = false := decide_eq_false (fun ⟨g, hg, e⟩ => hn g hg e)
    rw [this, show decide (p.funcs.length = 0) = false from decide_eq_false (by omega)]
    refine fnF_none.2 ⟨nmF_none.2 ⟨hs, hz, rfl⟩, szF_none.2 ⟨by simp, by simp, by simp, by simp, by simp, by simp⟩, cdF_none.2 (fun i q hi => ?_), hsF_none.2 ⟨by simp, fun i g hi => by simp at hi⟩⟩
    have hi' : [((0 : Int), (0 : Int))][i]? = some q := hi
    cases i with
    | zero => cases hi'; exact ⟨by decide, by unfold nmB; rw [show kdI 0 = 0 by decide]; rfl⟩
    | succ i => simp at hi'
theorem ckF_moreC {p : Pg} (hg : ckF p = none) {c : Cn} (hl : p.consts.length < 512) (hc : conE c p.consts = 0) : ckF { p with consts := p.consts ++ [c] } = none := by
  obtain ⟨g1, g2, g3, g4⟩ := ckF_none.1 hg
  refine ckF_none.2 ⟨⟨by simp; omega, fun j d hj => ?_⟩, g2, g3, fun j f hj => fnF_mono (p := p) (p' := { p with consts := p.consts ++ [c] }) ⟨[c], rfl⟩ (Nat.le_refl _) (g4 j f hj)⟩
  have hj' : (p.consts ++ [c])[j]? = some d := hj
  show conE d ((p.consts ++ [c]).take j) = 0
  rcases snoc_at hj' with q | ⟨q1, q2⟩
  · have hjl := (List.getElem?_eq_some_iff.1 q).1
    rw [List.take_append_of_le_length (by omega)]
    exact g1.2 j d q
  · subst q1 q2
    rw [List.take_left]; exact hc
theorem ckF_main {p : Pg} (hg : ckF p = none) {f : Fc} (hk : p.funcs[0]? = some f) : ckF { p with funcs := p.funcs.set 0 { f with params := 1 } } = some (0, 0, 1) := by
  have hn := fnF_none.1 ((ckF_none.1 hg).2.2.2 0 f hk)
  have := ckF_setF hg hk (f' := { f with params := 1 }) (a := 0) (y := 1) (fnF_sz hn.1 (by unfold szF; rw [if_pos (.inr (.inr ⟨rfl, by simp⟩))]))
  simpa using this
theorem fndB_false {ns : List ByteArray} {s : ByteArray} (h : fndB ns s = false) : ∀ t ∈ ns, t ≠ s := by
  intro t ht e
  subst e
  unfold fndB fnd at h
  have : ns.findIdx? (fun f => f.toList == t.toList) = none := by simpa using h
  rw [List.findIdx?_eq_none_iff] at this
  have := this t ht
  simp at this
end
end Go.Proofs.YtfaafamdjcojlaaDoor
