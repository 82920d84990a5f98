/-
  ProgramChecks.
-/
import Derived.Test.YtfaafamdjcojlaaDoorLent
import Derived.Test.YtfaafamdjcojlaaDoorKP
import Derived.Test.YtfaafamdjcojlaaDoorLast
import Derived.Test.YtfaafamdjcojlaaDoorRCheck
import Derived.Test.YtfaafamdjcojlaaDoorCheck
namespace Go.Proofs.YtfaafamdjcojlaaDoor
open Go.RowKit
set_option linter.unusedVariables false
set_option linter.unusedSimpArgs false
set_option maxRecDepth 100000
noncomputable section
theorem rsV_shape (o : Option (Int × Int × Int)) : ∃ k a y, rsV o = .tuple #[.agg #[.int .i64 k, .int .i64 a], .int .i64 y] := by
  cases o with
  | none => exact ⟨0, 0, 0, rfl⟩
  | some e => obtain ⟨k, a, y⟩ := e; exact ⟨k, a, y, rfl⟩
theorem Laid.fr {S : Nat → Prop} {w w' : World} (h : Laid w) (f : Fr S w w') (hn : ¬ S 0) : Laid w' := (f.cell (a := ⟨0, 0, none⟩) (World.block_lt_of_cell? _ _ h) hn).trans h
theorem Laid.below {w w' : World} (h : Laid w) (f : Below w.heap.size w w') : Laid w' := h.fr (S := fun _ => False) (Fr.of_below f) (fun e => e)
theorem Laid.pos {w : World} (h : Laid w) : 0 < w.heap.size := World.block_lt_of_cell? _ _ h
/-- What is asked of a program that came in. -/
structure InP (p : Pg) : Prop where
  nf : p.funcs.length ≤ 1048576
  nc : p.consts.length ≤ 1048576
  bd : ∀ (i : Nat) (f : Fc), p.funcs[i]? = some f → f.code.length ≤ 1048576 ∧ f.hs.length ≤ 1048576
  okc : ∀ c ∈ p.consts, OkC c
  okn : ∀ (i : Nat) (f : Fc), p.funcs[i]? = some f → f.name.size ≤ 9223372036854775807
  oka : ∀ (i : Nat) (f : Fc), p.funcs[i]? = some f → ∀ q ∈ f.code, I64 q.2
theorem InP.okp {p : Pg} (h : InP p) : OkP p := ⟨h.okc, fun i f hf => ⟨by have := (h.bd i f hf).1; omega, h.okn i f hf⟩⟩
theorem num_any (x : Int) (w : World) : Calls Tryd.prog 11 #[.int .i64 x] w fun e w' => e = .returned (.int .i64 x) ∧ w' = w := by
  go_enter Tryd.func11, Tryd.ntmps11
  go_wp2_with fail
  go_ret
  exact ⟨rfl, rfl⟩
theorem lastP_in {p : Pg} (h : InP p) (op : Int) : InP (lastP p op) := by
  unfold lastP
  cases hf : p.funcs[0]? with
  | none => exact h
  | some f =>
    simp only
    by_cases h0 : f.code.length = 0
    · rw [if_pos h0]; exact h
    · rw [if_neg h0]
      have h2 : ∀ (i : Nat) (g : Fc), (p.funcs.set 0 { f with code := f.code.set (f.code.length - 1) (op, 0) })[i]? = some g → (i = 0 ∧ g = { f with code := f.code.set (f.code.length - 1) (op, 0) }) ∨ p.funcs[i]? = some g := fun i g hg => by
        by_cases q : 0 = i
        · subst q
          rw [List.getElem?_set_self (List.getElem?_eq_some_iff.1 hf).1] at hg
          cases hg; exact .inl ⟨rfl, rfl⟩
        · rw [List.getElem?_set_ne q] at hg; exact .inr hg
      refine ⟨by rw [List.length_set]; exact h.nf, h.nc, fun i g hg => ?_, h.okc, fun i g hg => ?_, fun i g hg => ?_⟩
      · rcases h2 i g hg with ⟨rfl, rfl⟩ | e
        · simpa using h.bd 0 f hf
        · exact h.bd i g e
      · rcases h2 i g hg with ⟨rfl, rfl⟩ | e
        · exact h.okn 0 f hf
        · exact h.okn i g e
      · rcases h2 i g hg with ⟨rfl, rfl⟩ | e
        · intro q hq
          rcases List.mem_or_eq_of_mem_set hq with e | e
          · exact h.oka 0 f hf q e
          · subst e; exact ⟨by simp, by simp⟩
        · exact h.oka i g e
set_option maxHeartbeats 6400000 in
theorem checksLaw {w : World} {v : Value} {p : Pg} (op : Int) (h : PgV w v p) (hin : InP p) (hla : Laid w) : Calls Tryd.prog 3 #[v, .int .i64 op] w fun e w' => e = .returned (.bool true) ∧ Below w.heap.size w w' := by
  have HPV := hide h
  have HIN := hide hin
  have HLA := hide hla
  obtain ⟨k, a, y, hR1⟩ := rsV_shape (ckF p)
  obtain ⟨k2, a2, y2, hR2⟩ := rsV_shape (ckF (lastP p op))
  have HR1 := hide hR1
  have HR2 := hide hR2
  obtain ⟨cv, fv, rfl, hc, hf⟩ := h
  obtain ⟨fa, fcp, rfl, _, _, _⟩ := hf.at
  obtain ⟨_, ca, ccap, rfl, _, _, _⟩ := hc
  clear hf hin hla hR1 hR2
  obtain ⟨NC, hNC⟩ : ∃ L, Hid (p.consts.length = L) := ⟨_, rfl⟩
  obtain ⟨NF, hNF⟩ : ∃ L, Hid (p.funcs.length = L) := ⟨_, rfl⟩
  have hb1 : Below w.heap.size w (w.alloc (.cells #[.slice ca NC ccap, .slice fa NF fcp] 25)) := (Below.refl _ _).alloc (Nat.le_refl _) _
  have hL := lent_any (w := w.alloc (.cells #[.slice ca NC ccap, .slice fa NF fcp] 25)) ((unhide HPV).below hb1 (Nat.le_refl _)) (unhide HIN).nf (unhide HIN).nc (unhide HIN).bd
  rw [unhide hNC, unhide hNF] at hL
  rw [unhide hNC] at HPV ⊢
  rw [unhide hNF] at HPV ⊢
  have HL := hide hL
  clear hL hb1
  go_enter Tryd.func3, Tryd.ntmps3
  go_wp2_with fail
  refine (unhide HL).mono ?_
  rintro e w2 ⟨cg, co, qcap, fg, fo, fcap, ys, rfl, hlnt⟩
  clear HL
  have hop := hlnt.op
  rw [unhide hNC, unhide hNF] at hop
  have hqp := hlnt.pgv
  rw [unhide hNC, unhide hNF] at hqp
  obtain ⟨pb0, pb1, hpw, hpl⟩ := box2 (hlnt.below.mono (by simp) : Below (w.heap.size + 1) _ w2)
  have HOP := hide hop
  have HLN := hide hlnt
  -- all that came in and q, and the box of q, in any world behind
  obtain ⟨W2, hW2⟩ : ∃ x, Hid (w2.alloc (.cells #[.slice (some ⟨cg, co, none⟩) NC qcap, .slice (some ⟨fg, fo, none⟩) NF fcap] 25) = x) := ⟨_, rfl⟩
  have hb2 : Below w2.heap.size w2 W2 := by rw [← unhide hW2]; exact (Below.refl _ _).alloc (Nat.le_refl _) _
  obtain ⟨qb0, qb1, _, hq2⟩ := box2 (w := w2) (wr := W2) (u := .slice (some ⟨cg, co, none⟩) NC qcap) (v := .slice (some ⟨fg, fo, none⟩) NF fcap) (e := 25) (by rw [← unhide hW2]; exact Below.refl _ _)
  have HwW := hide (hpw.trans (hb2.mono hpw.size))
  have pc0 := Below.heldIn hb2 hpl pb0
  have pc1 := Below.heldIn hb2 hpl pb1
  have hpl2 := Nat.lt_of_lt_of_le hpl hb2.size
  have HPB := hide (And.intro hpl2 (And.intro pc0 pc1))
  have HQB := hide (And.intro hq2 (And.intro qb0 qb1))
  have HC9 := hide (rCheck_any (w := W2) ((unhide HPV).below (unhide HwW) (Nat.le_refl _)) (by have := (unhide HIN).nc; omega) (fun i f hf => ⟨by have := ((unhide HIN).bd i f hf).1; omega, (unhide HIN).okn i f hf, (unhide HIN).oka i f hf⟩))
  clear hop hlnt hpw hqp qb0 qb1 hq2 pc0 pc1 hpl2
  go_wp2_with fail
  rw [unhide hW2]
  refine (unhide HC9).mono ?_
  clear HC9 pb0 pb1 hpl
  rintro e w3 ⟨rfl, hb3⟩
  rw [unhide HR1]
  have qc0 := Below.heldIn hb3 (unhide HQB).1 (unhide HQB).2.1
  have qc1 := Below.heldIn hb3 (unhide HQB).1 (unhide HQB).2.2
  have hql := Nat.lt_of_lt_of_le (unhide HQB).1 hb3.size
  have hbA : Below W2.heap.size W2 (w3.alloc (.cells #[.int .i64 k, .int .i64 a] 28)) := hb3.trans (((Below.refl _ _).alloc (Nat.le_refl _) _).mono hb3.size)
  have HC10 : Hid (Calls Tryd.prog 10 #[.agg #[.slice (some ⟨cg, co, none⟩) NC qcap, .slice (some ⟨fg, fo, none⟩) NF fcap]] (w3.alloc (.cells #[.int .i64 k, .int .i64 a] 28)) fun e w' => e = .returned (rsV (ckF p)) ∧ Below (w3.alloc (.cells #[.int .i64 k, .int .i64 a] 28)).heap.size (w3.alloc (.cells #[.int .i64 k, .int .i64 a] 28)) w') := by
    have h2 : Below w2.heap.size w2 (w3.alloc (.cells #[.int .i64 k, .int .i64 a] 28)) := hb2.trans (hbA.mono hb2.size)
    exact pCheck_any (((unhide HOP).pgv).below h2 (Nat.le_refl _)) (unhide HIN).okp (((unhide HLA).below (unhide HwW)).below hbA)
  go_wp2_with fail
  refine (unhide HC10).mono ?_
  clear HC10
  rintro e w4 ⟨rfl, hb4⟩
  rw [unhide HR1]
  clear qc0 qc1
  have hb4' : Below (w3.heap.size + 1) (w3.alloc (.cells #[.int .i64 k, .int .i64 a] 28)) w4 := by simpa using hb4
  obtain ⟨sA0, sA1, hw34, hAl⟩ := box2 hb4'
  have hQA : w2.heap.size < w3.heap.size := hql
  have hPQ : w.heap.size < w2.heap.size := by have := (unhide HLN).below.size; simp at this; omega
  have hb24 : Below W2.heap.size W2 w4 := hb3.trans (hw34.mono hb3.size)
  have sQ0 := Below.heldIn hb24 (unhide HQB).1 (unhide HQB).2.1
  have sQ1 := Below.heldIn hb24 (unhide HQB).1 (unhide HQB).2.2
  have sP0 := Below.heldIn hb24 (unhide HPB).1 (unhide HPB).2.1
  have sP1 := Below.heldIn hb24 (unhide HPB).1 (unhide HPB).2.2
  have hQl : w2.heap.size < w4.heap.size := by omega
  have hPl : w.heap.size < w4.heap.size := by omega
  obtain ⟨W4, hW4⟩ : ∃ x, Hid (w4.alloc (.cells #[.int .i64 k, .int .i64 a] 28) = x) := ⟨_, rfl⟩
  have hb44 : Below w4.heap.size w4 W4 := by rw [← unhide hW4]; exact (Below.refl _ _).alloc (Nat.le_refl _) _
  obtain ⟨sC0, sC1, _, hCl⟩ := box2 (w := w4) (wr := W4) (u := .int .i64 k) (v := .int .i64 a) (e := 28) (by rw [← unhide hW4]; exact Below.refl _ _)
  have hcf : ∀ o, W4.frozen? ⟨w4.heap.size, o, none⟩ = false := fun o => by
    have : W4.heap[w4.heap.size]? = some (.cells #[.int .i64 k, .int .i64 a] 28 (0, 0)) := by rw [← unhide hW4]; exact heap_alloc_new _ _
    simp [World.frozen?, this]
  have haf : ∀ o, W4.frozen? ⟨w3.heap.size, o, none⟩ = false := fun o => by
    have : W4.heap[w3.heap.size]? = some (.cells #[.int .i64 k, .int .i64 a] 28 (0, 0)) := (hb44.block _ hAl).trans ((hb4'.block _ (Nat.lt_succ_self _)).trans (heap_alloc_new _ _))
    simp [World.frozen?, this]
  have HZ := hide (And.intro hcf haf)
  have hb2W : Below w2.heap.size w2 W4 := hb2.trans ((hb24.trans (hb44.mono hb24.size)).mono hb2.size)
  have hwW4 : Below w.heap.size w W4 := (unhide HwW).trans ((hb24.trans (hb44.mono hb24.size)).mono (unhide HwW).size)
  have HK := hide (keptP_any ((unhide HLN).keep hb2W) ((unhide HPV).below hwW4 (Nat.le_refl _)) (unhide HIN).nf (unhide HIN).nc (unhide HIN).bd)
  have HLAW := hide ((unhide HLA).below hwW4)
  rw [unhide hNC, unhide hNF] at HK
  have HOP4 := hide ((unhide HOP).keep hb2W)
  have HG4 := hide (fun b (hb : inO (.slice (some ⟨cg, co, none⟩) NC qcap) (.slice (some ⟨fg, fo, none⟩) NF fcap) (List.zipWith lentF p.funcs ys) b) => (unhide HOP).ge hb)
  have HS4 := hide (And.intro hb44 (And.intro hwW4 hCl))
  have HC4 := hide (And.intro sC0 sC1)
  clear hcf haf hb44 hb24 hb4 hb4' hw34 sC0 sC1 hb2W hwW4 hbA hb3
  go_wp2_with fail
  refine (num_any y _).mono ?_
  rintro e wx ⟨rfl, rfl⟩
  go_wp2_with fail
  rw [unhide hW4]
  refine (unhide HK).mono ?_
  clear HK
  rintro e w5 ⟨rfl, hb5⟩
  have hQA4 : w2.heap.size < W4.heap.size := Nat.lt_of_lt_of_le hQl (unhide HS4).1.size
  have hAC4 : w3.heap.size < W4.heap.size := Nat.lt_of_lt_of_le hAl (unhide HS4).1.size
  have HOP5 := hide ((unhide HOP4).keep hb5)
  have tQ0 := Below.heldIn hb5 hQA4 (Below.heldIn (unhide HS4).1 hQl sQ0)
  have tQ1 := Below.heldIn hb5 hQA4 (Below.heldIn (unhide HS4).1 hQl sQ1)
  have hQ5 := Nat.lt_of_lt_of_le hQA4 hb5.size
  have tA : ∀ o, w5.frozen? ⟨w3.heap.size, o, none⟩ = false := fun o => (World.frozen?_of_block (hb5.block _ hAC4)).trans ((unhide HZ).2 o)
  have tC : ∀ o, w5.frozen? ⟨w4.heap.size, o, none⟩ = false := fun o => (World.frozen?_of_block (hb5.block _ (unhide HS4).2.2)).trans ((unhide HZ).1 o)
  have tA0 := Below.heldIn hb5 hAC4 (Below.heldIn (unhide HS4).1 hAl sA0)
  have tA1 := Below.heldIn hb5 hAC4 (Below.heldIn (unhide HS4).1 hAl sA1)
  have tC0 := Below.heldIn hb5 (unhide HS4).2.2 (unhide HC4).1
  have tC1 := Below.heldIn hb5 (unhide HS4).2.2 (unhide HC4).2
  have hA5 := Nat.lt_of_lt_of_le hAC4 hb5.size
  have hC5 := Nat.lt_of_lt_of_le (unhide HS4).2.2 hb5.size
  have HLA5 := hide ((unhide HLAW).below hb5)
  have HT5 := hide (And.intro tA (And.intro tC (And.intro tA0 (And.intro tA1 (And.intro tC0 (And.intro tC1 (And.intro hA5 hC5)))))))
  have hAC : w3.heap.size < w4.heap.size := hAl
  have HW5 := hide ((unhide HS4).2.1.trans (hb5.mono (unhide HS4).2.1.size))
  clear HOP4 HLAW HC4 HZ HS4 tA tC tA0 tA1 tC0 tC1 hA5 hC5 hb5 hQA4 hAC4 hCl sA0 sA1 sQ0 sQ1 sP0 sP1 HPB HQB hPl hQl
  go_wp2_with fail
  refine (last_any (unhide HOP5) op).mono ?_
  rintro e w6 ⟨rfl, hO6, hF6⟩
  have hni : ∀ b, w2.heap.size ≤ b → ¬ inO (.slice (some ⟨cg, co, none⟩) NC qcap) (.slice (some ⟨fg, fo, none⟩) NF fcap) (List.zipWith lentF p.funcs ys) b := fun b hb e => by have := (unhide HG4 b e).2; omega
  obtain ⟨tA, tC, tA0, tA1, tC0, tC1, hA5, hC5⟩ := unhide HT5
  have uQ0 := Fr.heldIn hF6 hQ5 (hni _ (Nat.le_refl _)) tQ0
  have uQ1 := Fr.heldIn hF6 hQ5 (hni _ (Nat.le_refl _)) tQ1
  have uA0 := Fr.heldIn hF6 hA5 (hni _ (by simp; omega)) tA0
  have uA1 := Fr.heldIn hF6 hA5 (hni _ (by simp; omega)) tA1
  have uC0 := Fr.heldIn hF6 hC5 (hni _ (by simp; omega)) tC0
  have uC1 := Fr.heldIn hF6 hC5 (hni _ (by simp; omega)) tC1
  have uAf : ∀ o, w6.frozen? ⟨w3.heap.size, o, none⟩ = false := fun o => (World.frozen?_of_block (hF6.block _ hA5 (hni w3.heap.size (by omega)))).trans (tA o)
  have uCf : ∀ o, w6.frozen? ⟨w4.heap.size, o, none⟩ = false := fun o => (World.frozen?_of_block (hF6.block _ hC5 (hni w4.heap.size (by omega)))).trans (tC o)
  have hQ6 := Nat.lt_of_lt_of_le hQ5 hF6.size
  have hA6 := Nat.lt_of_lt_of_le hA5 hF6.size
  have hC6 := Nat.lt_of_lt_of_le hC5 hF6.size
  have hnL : ∀ b, b < w.heap.size → ¬ inO (.slice (some ⟨cg, co, none⟩) NC qcap) (.slice (some ⟨fg, fo, none⟩) NF fcap) (List.zipWith lentF p.funcs ys) b := fun b hb e => by have := (unhide HG4 b e).1; simp at this; omega
  have HLA6 := hide ((unhide HLA5).fr hF6 (hnL 0 (unhide HLA).pos))
  have HW6 := hide ((unhide HW5).trans (hF6.below (by have := (unhide HW5).size; omega) hnL))
  have HIL := hide (lastP_in (unhide HIN) op)
  have HO6 := hide hO6
  have HCP := hide (cpP_any hO6.pgv (by have := (unhide HIL).nf; omega) (by have := (unhide HIL).nc; omega) (fun i f hf => by have := (unhide HIL).bd i f hf; omega))
  have HU := hide (And.intro uA0 (And.intro uA1 (And.intro uC0 (And.intro uC1 (And.intro uAf uCf)))))
  have HNI := hide hni
  clear hO6 hF6 uA0 uA1 uC0 uC1 uAf uCf tA tC tA0 tA1 tC0 tC1 hA5 hC5 hni hnL HT5 HOP5 HLA5 HG4 tQ0 tQ1
  go_wp2_with fail
  refine (unhide HCP).mono ?_
  clear HCP
  rintro e w7 ⟨ccv, cfv, cxs, rfl, hO7, hb7⟩
  have HC9 := hide (rCheck_any (w := w7) hO7.pgv (by have := (unhide HIL).nc; omega) (fun i f hf => ⟨by have := ((unhide HIL).bd i f hf).1; omega, (unhide HIL).okn i f hf, (unhide HIL).oka i f hf⟩))
  clear hO7
  go_wp2_with fail
  refine (unhide HC9).mono ?_
  clear HC9
  rintro e w8 ⟨rfl, hb8⟩
  rw [unhide HR2]
  have h68 : Below w6.heap.size w6 w8 := hb7.trans (hb8.mono hb7.size)
  obtain ⟨uA0, uA1, uC0, uC1, uAf, uCf⟩ := unhide HU
  have vA0 := Below.heldIn h68 hA6 uA0
  have vA1 := Below.heldIn h68 hA6 uA1
  have vC0 := Below.heldIn h68 hC6 uC0
  have vC1 := Below.heldIn h68 hC6 uC1
  have vAf0 : w8.frozen? ⟨w3.heap.size, 0, none⟩ = false := (World.frozen?_of_block (h68.block _ hA6)).trans (uAf 0)
  have vAf1 : w8.frozen? ⟨w3.heap.size, 1, none⟩ = false := (World.frozen?_of_block (h68.block _ hA6)).trans (uAf 1)
  have vQ0 := Below.heldIn h68 hQ6 uQ0
  have vQ1 := Below.heldIn h68 hQ6 uQ1
  have hQ8 := Nat.lt_of_lt_of_le hQ6 h68.size
  have hA8 := Nat.lt_of_lt_of_le hA6 h68.size
  have hC8 := Nat.lt_of_lt_of_le hC6 h68.size
  obtain ⟨W8, hW8⟩ : ∃ x, Hid ((w8.setCell ⟨w3.heap.size, 0, none⟩ (.int .i64 k2)).setCell ⟨w3.heap.size, 1, none⟩ (.int .i64 a2) = x) := ⟨_, rfl⟩
  have hF8 : Fr (fun b => b = w3.heap.size) w8 W8 := by rw [← unhide hW8]; exact ((Fr.refl (fun b => b = w3.heap.size) w8).setCell ⟨w3.heap.size, 0, none⟩ (.inr rfl) _).setCell ⟨w3.heap.size, 1, none⟩ (.inr rfl) _
  have xA0 : W8.cell? ⟨w3.heap.size, 0, none⟩ = some (.int .i64 k2) := by rw [← unhide hW8]; go_simp
  have xA1 : W8.cell? ⟨w3.heap.size, 1, none⟩ = some (.int .i64 a2) := by rw [← unhide hW8]; go_simp
  have xC0 := Fr.heldIn hF8 hC8 (by simp; omega) vC0
  have xC1 := Fr.heldIn hF8 hC8 (by simp; omega) vC1
  have xQ0 := Fr.heldIn hF8 hQ8 (by simp; omega) vQ0
  have xQ1 := Fr.heldIn hF8 hQ8 (by simp; omega) vQ1
  have xCf : ∀ o, W8.frozen? ⟨w4.heap.size, o, none⟩ = false := fun o => (World.frozen?_of_block (hF8.block w4.heap.size hC8 (by omega))).trans ((World.frozen?_of_block (h68.block _ hC6)).trans (uCf o))
  have HC10 := hide (pCheck_any (w := W8) (((((unhide HO6).keep h68).fr hF8 (fun b hb (e : b = w3.heap.size) => unhide HNI b (by omega) hb))).pgv) (unhide HIL).okp ((((unhide HLA6).below h68)).fr hF8 (by have := (unhide HLA).pos; omega)))
  have HW8 := hide (((unhide HW6).trans (h68.mono (unhide HW6).size)).trans (hF8.below (by have := (unhide HW6).size; have := h68.size; omega) (fun b hb (e : b = w3.heap.size) => by omega)))
  have HX := hide (And.intro xA0 (And.intro xA1 (And.intro xC0 (And.intro xC1 xCf))))
  have hA9 := Nat.lt_of_lt_of_le hA8 hF8.size
  have hC9 := Nat.lt_of_lt_of_le hC8 hF8.size
  clear xA0 xA1 xC0 xC1 xCf vC0 vC1 uC0 uC1 uA0 uA1 uAf uCf HU hF8 h68 hb7 hb8 uQ0 uQ1 xQ0 xQ1
  go_wp2_with fail
  rw [unhide hW8]
  refine (unhide HC10).mono ?_
  clear HC10 vA0 vA1 vAf0 vAf1 vQ0 vQ1
  rintro e w9 ⟨rfl, hb9⟩
  rw [unhide HR2]
  obtain ⟨xA0, xA1, xC0, xC1, xCf⟩ := unhide HX
  have yA0 := Below.heldIn hb9 hA9 xA0
  have yA1 := Below.heldIn hb9 hA9 xA1
  have yC0 := Below.heldIn hb9 hC9 xC0
  have yC1 := Below.heldIn hb9 hC9 xC1
  have yf0 : w9.frozen? ⟨w4.heap.size, 0, none⟩ = false := (World.frozen?_of_block (hb9.block _ hC9)).trans (xCf 0)
  have yf1 : w9.frozen? ⟨w4.heap.size, 1, none⟩ = false := (World.frozen?_of_block (hb9.block _ hC9)).trans (xCf 1)
  have hA10 := Nat.lt_of_lt_of_le hA9 hb9.size
  have hC10 := Nat.lt_of_lt_of_le hC9 hb9.size
  have HW9 := hide ((unhide HW8).trans (hb9.mono (unhide HW8).size))
  clear xA0 xA1 xC0 xC1 xCf HX hb9
  go_wp2_with fail
  refine (num_any y2 _).mono ?_
  rintro e wx ⟨rfl, rfl⟩
  go_wp2_with fail
  go_ret
  refine ⟨rfl, (unhide HW9).trans (Fr.below (((Fr.refl (fun b => b = w4.heap.size) w9).setCell ⟨w4.heap.size, 0, none⟩ (.inr rfl) _).setCell ⟨w4.heap.size, 1, none⟩ (.inr rfl) _) (by have := (unhide HW9).size; omega) (fun b hb (e : b = w4.heap.size) => by omega))⟩
end
end Go.Proofs.YtfaafamdjcojlaaDoor
