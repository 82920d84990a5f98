/-
  CopiesAgain's law.
-/
import Derived.Test.YtpbdpejhjdoleaaWk
import Derived.Test.YtpbdpejhjdoleaaPu
namespace Go.Proofs.Ytpbdpejhjdoleaa
open Go.RowKit
set_option linter.unusedVariables false
set_option linter.unusedSimpArgs false
theorem trn_okx {l : List RIn} (h : ∀ x ∈ l, OkX x) : ∀ y ∈ (trn l).2, OkX y := by
  have key : ∀ (l : List RIn) (s : (Op → Wr) × List RIn), (∀ y ∈ s.2, OkX y) → (∀ x ∈ l, OkX x) → ∀ y ∈ (l.foldl stp s).2, OkX y := by
    intro l
    induction l with
    | nil => exact fun s h1 _ => h1
    | cons x l ih =>
      intro s h1 h2
      refine ih (stp s x) (fun y hy => ?_) (fun y hy => h2 y (by simp [hy]))
      by_cases hs : mvd (inF s.1 x) = some (rgO x.dst)
      · rw [stp_same hs] at hy; exact h1 y hy
      · rw [stp_list hs] at hy
        rcases List.mem_append.1 hy with q | q
        · exact h1 y q
        · rw [List.mem_singleton] at q
          subst q
          obtain ⟨a1, a2, a3⟩ := h2 x (by simp)
          refine ⟨by simp [inF]; exact a1, by simp [inF]; exact a2, fun t ht => ?_⟩
          obtain ⟨u, hu, rfl⟩ := List.mem_map.1 ht
          simp only [shF, List.length_map]
          exact a3 u hu
  exact key l _ (fun y hy => by simp at hy) h
theorem OkB.trn {b : Bk} (h : OkB b) : OkB (bkT b) := by
  obtain ⟨h1, h2, h3, h4⟩ := h
  obtain ⟨t1, t2, t3⟩ := trn_ok (l := b.ins) h1
  exact ⟨t2, by show (Ytpbdpejhjdoleaa.trn b.ins).2.length ≤ _; omega, h3, trn_okx h4⟩
theorem OkB.s {b : Bk} (h : OkB b) : OkS b := ⟨h.2.1, h.2.2.1, h.2.2.2⟩
theorem AnsC.bks {w w' : World} {fn regs : Int} {bl : List Bk} {e : Ending} (h : AnsC w fn regs bl e w') : ∃ a c, e = .returned (.agg #[.int .i64 fn, .int .i64 regs, .slice a bl.length c]) ∧ bl.length ≤ c ∧ c ≤ maxLen ∧ Below w.heap.size w w' ∧ BksV Tr w' bl (.slice a bl.length c) := by
  obtain ⟨v, Ts, rfl, hb, ho⟩ := h
  have hk := BksV.of_ow ho
  obtain ⟨a, c, rfl, h1, h2⟩ := NV.shape hk
  exact ⟨a, c, rfl, h1, h2, hb, hk⟩
set_option maxRecDepth 100000 in
set_option maxHeartbeats 6400000 in
theorem againLaw {w : World} {D : Nat → Prop} {fn regs : Int} {bl : List Bk} {v : Value} (h : BksV D w bl v) (hO : ∀ b ∈ bl, OkB b) (hN : bl.length ≤ 1048576) :
    Calls Try.prog 4 #[.agg #[.int .i64 fn, .int .i64 regs, v]] w fun e w' => e = .returned (.bool true) ∧ Below w.heap.size w w' := by
  obtain ⟨a, c, rfl, ha1, ha2⟩ := NV.shape h
  obtain ⟨L, hL⟩ : ∃ L, Hid (bl.length = L) := ⟨_, hide rfl⟩
  rw [unhide hL] at h hN ha1 ⊢
  have hlm : (bl.map bkT).length = L := by rw [List.length_map]; exact unhide hL
  have HLM := hide hlm
  have H1 := hide ((BX.nil w).add #[.int .i64 fn, .int .i64 regs, .slice a L c] 24)
  have HO1 : Hid (∀ b ∈ bl.map bkT, OkB b) := fun b hb => by
    obtain ⟨b', hb', rfl⟩ := List.mem_map.1 hb
    exact (hO b' hb').trn
  have HC := hide (run_any (fn := fn) (regs := regs) (BksV.mv.bel h (box1n w (.cells #[.int .i64 fn, .int .i64 regs, .slice a L c] 24))) hO (by rw [unhide hL]; exact hN))
  unfold maxLen at ha2
  clear h hO hlm
  go_enter Try.func4, Try.ntmps4
  go_wp2_with fail
  refine (unhide HC).mono ?_
  rintro e w1 hA
  obtain ⟨a1, c1, rfl, q1, q2, b1, k1⟩ := hA.bks
  rw [unhide HLM] at q1 k1 ⊢
  unfold maxLen at q2
  have HK1 := hide k1
  have H2 := hide (((unhide H1).go b1).add #[.int .i64 fn, .int .i64 regs, .slice a1 L c1] 24)
  have HC2 := hide (run_any (fn := fn) (regs := regs) (BksV.mv.bel k1 (box1n w1 (.cells #[.int .i64 fn, .int .i64 regs, .slice a1 L c1] 24))) (unhide HO1) (by rw [unhide HLM]; exact hN))
  rw [map_again] at HC2
  clear hA b1 k1 HC H1
  go_wp2_with fail
  refine (unhide HC2).mono ?_
  rintro e w2 hA
  obtain ⟨a2, c2, rfl, q3, q4, b2, k2⟩ := hA.bks
  rw [unhide HLM] at q3 k2 ⊢
  unfold maxLen at q4
  have HK2 := hide k2
  have HK12 := hide (BksV.mv.bel (unhide HK1) (bl_past (box1n w1 (.cells #[.int .i64 fn, .int .i64 regs, .slice a1 L c1] 24)) b2))
  have H3 := hide (((unhide H2).go b2).add #[.int .i64 fn, .int .i64 regs, .slice a2 L c2] 24)
  simp only [List.nil_append, List.cons_append] at H3
  clear hA b2 k2 HC2 H2 HK1
  go_wp2_with fail
  refine (works_any _).mono ?_
  rintro e w3 ⟨rfl, b3⟩
  have H4 := hide ((unhide H3).go b3)
  have HK13 := hide (BksV.mv.bel (unhide HK12) (bl_past (box1n w2 (.cells #[.int .i64 fn, .int .i64 regs, .slice a2 L c2] 24)) b3))
  have HK23 := hide (BksV.mv.bel (unhide HK2) (bl_past (box1n w2 (.cells #[.int .i64 fn, .int .i64 regs, .slice a2 L c2] 24)) b3))
  clear b3 HK12 HK2 H3
  have HC4 := hide (sameR_yes (fn := fn) (regs := regs) (unhide HK13) (unhide HK23) (by rw [unhide HLM]; exact hN) (fun b hb => (unhide HO1 b hb).s))
  have x0 := (unhide H4).ce 1 rfl 0
  have x1 := (unhide H4).ce 1 rfl 1
  have x2 := (unhide H4).ce 1 rfl 2
  have xl := (unhide H4).lt (i := 1) rfl
  have y0 := (unhide H4).ce 2 rfl 0
  have y1 := (unhide H4).ce 2 rfl 1
  have y2 := (unhide H4).ce 2 rfl 2
  have yl := (unhide H4).lt (i := 2) rfl
  simp at x0 x1 x2 xl y0 y1 y2 yl
  go_wp2_with fail
  refine (unhide HC4).mono ?_
  rintro e w4 ⟨rfl, b4⟩
  have HF := hide (bl_past (unhide H4).b b4)
  clear b4 x0 x1 x2 xl y0 y1 y2 yl
  go_wp2_with fail
  go_ret
  exact ⟨rfl, unhide HF⟩
end Go.Proofs.Ytpbdpejhjdoleaa
