/-
  Programs of which an instruction, or a handler, is spoilt.
-/
import Derived.Test.YtfaafamdjcojlaaDoorConstsLaw
namespace Go.Proofs.YtfaafamdjcojlaaDoor
open Go.RowKit
set_option linter.unusedVariables false
set_option linter.unusedSimpArgs false
set_option maxRecDepth 100000
noncomputable section
theorem cdF_congrF {p : Pg} {f f' : Fc} (h1 : f'.code = f.code) (h2 : f'.locals = f.locals) : cdF p f' = cdF p f := by
  have key : ∀ (l : List (Int × Int)) (i : Nat), cdG p f' l i = cdG p f l i := by
    intro l
    induction l with
    | nil => intro i; rfl
    | cons q r ih => intro i; obtain ⟨op, a⟩ := q; rw [cdG, cdG, nmB_congr rfl rfl (by rw [h1]) h2, ih]
  unfold cdF
  rw [h1, key]
theorem set_setF {p : Pg} {k : Nat} {a b : Fc} : ({ ({ p with funcs := p.funcs.set k a } : Pg) with funcs := ({ p with funcs := p.funcs.set k a } : Pg).funcs.set k b } : Pg) = { p with funcs := p.funcs.set k b } := by
  simp [List.set_set]
/-- A function of a right program is put in another's place, and that is right too. -/
theorem ckF_okF {p : Pg} (hg : ckF p = none) {k : Nat} {f f' : Fc} (hk : p.funcs[k]? = some f) (hn : f'.name = f.name) (hb : ∀ t, fnF p f (decide (k = 0)) t = none → fnF p f' (decide (k = 0)) t = none) : ckF { p with funcs := p.funcs.set k f' } = none := by
  obtain ⟨g1, g2, g3, g4⟩ := ckF_none.1 hg
  have hl := (List.getElem?_eq_some_iff.1 hk).1
  refine ckF_none.2 ⟨g1, by simpa using g2, by simpa using g3, fun j f2 h2 => ?_⟩
  rw [fnF_congr (p := p) (p' := { p with funcs := p.funcs.set k f' }) rfl (by simp)]
  have h3 : (p.funcs.set k f')[j]? = some f2 := h2
  -- the names ahead are the same
  have hnm : (decide (∃ g ∈ (p.funcs.set k f').take j, g.name = f2.name)) = decide (∃ g ∈ p.funcs.take j, g.name = f2.name) := by
    apply decide_eq_decide.2
    rw [List.take_set]
    constructor
    · rintro ⟨g, hgm, e⟩
      rcases List.mem_or_eq_of_mem_set hgm with q | q
      · exact ⟨g, q, e⟩
      · subst q
        obtain ⟨i, hi, ei⟩ := List.getElem_of_mem hgm
        by_cases q : k < j
        · exact ⟨f, List.mem_of_getElem? (i := k) (by rw [List.getElem?_take_of_lt q]; exact hk), by rw [← hn]; exact e⟩
        · rw [List.set_eq_of_length_le (by rw [List.length_take]; omega)] at hgm
          exact ⟨_, hgm, e⟩
    · rintro ⟨g, hgm, e⟩
      obtain ⟨i, hi, ei⟩ := List.getElem_of_mem hgm
      by_cases q : k = i
      · subst q
        have hkj : k < (p.funcs.take j).length := hi
        have : g = f := by
          rw [List.getElem_take] at ei
          have := (List.getElem?_eq_some_iff.1 hk).2
          exact ei.symm.trans this
        refine ⟨f', List.mem_of_getElem? (i := k) (List.getElem?_set_self hkj), ?_⟩
        rw [hn, ← this]; exact e
      · exact ⟨g, List.mem_of_getElem? (i := i) (by rw [List.getElem?_set_ne q, List.getElem?_eq_getElem hi, ei]), e⟩
  show fnF p f2 (decide (j = 0)) (decide (∃ g ∈ (p.funcs.set k f').take j, g.name = f2.name)) = none
  rw [hnm]
  by_cases q : k = j
  · subst q
    rw [List.getElem?_set_self hl] at h3
    cases h3
    rw [hn]
    exact hb _ (g4 k f hk)
  · rw [List.getElem?_set_ne q] at h3
    exact g4 j f2 h3
theorem fnF_cd {p : Pg} {f : Fc} {m t : Bool} {e : Int × Int} (h1 : nmF f.name t = none) (h2 : szF f m = none) (h3 : cdF p f = some e) : fnF p f m t = some e := by unfold fnF; rw [h1, h2, h3]; rfl
theorem fnF_hs {p : Pg} {f : Fc} {m t : Bool} {e : Int × Int} (h1 : nmF f.name t = none) (h2 : szF f m = none) (h3 : cdF p f = none) (h4 : hsF f = some e) : fnF p f m t = some e := by unfold fnF; rw [h1, h2, h3, h4]; rfl
/-- One more handler, in its place: nothing is found. -/
theorem han_more {p : Pg} (hg : ckF p = none) {k : Nat} {f : Fc} (hk : p.funcs[k]? = some f) {h : Hd} (hm : f.hs.length < 32) (hf : fitB h f.code.length = true) : ckF { p with funcs := p.funcs.set k { f with hs := f.hs ++ [h] } } = none := by
  refine ckF_okF hg hk rfl (fun t h0 => ?_)
  obtain ⟨a1, a2, a3, a4⟩ := fnF_none.1 h0
  obtain ⟨b1, b2⟩ := hsF_none.1 a4
  refine fnF_none.2 ⟨a1, a2, by rw [cdF_congrF (f := f) (f' := { f with hs := f.hs ++ [h] }) rfl rfl]; exact a3, hsF_none.2 ⟨by simp; omega, fun j g hj => ?_⟩⟩
  rcases snoc_at hj with q | ⟨_, q⟩
  · exact b2 j g q
  · rw [q]; exact hf
/-- One more, out of its place: just that is found. -/
theorem han_bad {p : Pg} (hg : ckF p = none) {k : Nat} {f : Fc} (hk : p.funcs[k]? = some f) {h : Hd} (hm : f.hs.length < 32) (hf : fitB h f.code.length = false) : ckF { p with funcs := p.funcs.set k { f with hs := f.hs ++ [h] } } = some ((k : Int), (f.hs.length : Int), 8) := by
  refine ckF_setF hg hk ?_
  obtain ⟨a1, a2, a3, a4⟩ := fnF_none.1 ((ckF_none.1 hg).2.2.2 k f hk)
  obtain ⟨b1, b2⟩ := hsF_none.1 a4
  refine fnF_hs a1 a2 (by rw [cdF_congrF (f := f) (f' := { f with hs := f.hs ++ [h] }) rfl rfl]; exact a3) ?_
  unfold hsF
  rw [if_neg (by simp; omega)]
  have := hsG_bad (n := (f.code.length : Int)) (l := f.hs ++ [h]) (i := f.hs.length) (k := 0) (h := h) (by simp) hf (fun j g hj hg => by
    rw [List.getElem?_append_left hj] at hg
    exact b2 j g hg)
  rw [Nat.zero_add] at this
  exact this
/-- An instruction that is not right, or that names nothing: just that is found. -/
theorem ins_bad {p : Pg} (hg : ckF p = none) {k pc : Nat} {f : Fc} (hk : p.funcs[k]? = some f) (hpc : pc < f.code.length) {op a e : Int} (he : (erN op a ≠ 0 ∧ e = 7) ∨ (erN op a = 0 ∧ nmB p f op a = false ∧ e = 8)) : ckF { p with funcs := p.funcs.set k { f with code := f.code.set pc (op, a) } } = some ((k : Int), (pc : Int), e) := by
  refine ckF_setF hg hk ?_
  obtain ⟨a1, a2, a3, a4⟩ := fnF_none.1 ((ckF_none.1 hg).2.2.2 k f hk)
  have hs := szF_none.1 a2
  refine fnF_cd a1 (szF_none.2 ⟨hs.1, hs.2.1, hs.2.2.1, hs.2.2.2.1, by simpa using hs.2.2.2.2.1, by simpa using hs.2.2.2.2.2⟩) ?_
  have hc := cdF_none.1 a3
  rw [cdF_first (f := { f with code := f.code.set pc (op, a) }) (k := pc) (q := (op, a)) (by simp [hpc]) (fun j q hj hq => by
    have hq' : (f.code.set pc (op, a))[j]? = some q := hq
    rw [List.getElem?_set_ne (by omega)] at hq'
    have := hc j q hq'
    exact ⟨this.1, by rw [nmB_congr (p := p) (p' := p) (f := f) (f' := { f with code := f.code.set pc (op, a) }) rfl rfl (by simp) rfl]; exact this.2⟩)]
  rcases he with ⟨h1, rfl⟩ | ⟨h1, h2, rfl⟩
  · rw [if_pos h1]
    have : erN op a = 7 := by unfold erN at h1 ⊢; by_cases q : okB op a = true; rw [if_pos q] at h1; exact absurd rfl h1; rw [if_neg q]
    rw [this]
  · rw [if_neg (by simpa using h1), if_pos (by rw [nmB_congr (p := p) (p' := p) (f := f) (f' := { f with code := f.code.set pc (op, a) }) rfl rfl (by simp) rfl]; exact h2)]
theorem erN_kd {op : Int} {n : Nat} (h : op = (n : Int)) (hn : n < 67) (h7 : kd n ≠ 7) (a : Int) : erN op a = if lo (kd n) ≤ a ∧ a ≤ hi (kd n) then 0 else 7 := by
  subst h
  unfold erN okB
  rw [isOp_nat hn, Bool.true_and, Int.toNat_natCast]
  unfold rightB
  rw [if_neg h7]
  by_cases q : lo (kd n) ≤ a ∧ a ≤ hi (kd n)
  · rw [if_pos q, decide_eq_true q]; rfl
  · rw [if_neg q, decide_eq_false q]; rfl
end
end Go.Proofs.YtfaafamdjcojlaaDoor
