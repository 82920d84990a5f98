/-
  Wrong at a place.
-/
import Derived.Test.YtiknljilfpekfaaDoorK4
import Derived.Test.YtiknljilfpekfaaDoorVWork2
namespace Go.Proofs.YtiknljilfpekfaaDoor
open Go.RowKit
set_option linter.unusedVariables false
set_option linter.unusedSimpArgs false
set_option maxRecDepth 100000 in
set_option maxHeartbeats 1600000 in
theorem wrongAt_any {w : World} {f : Fc} {x : Fv} {pc : Int} (h : FnV w f x) (hok : OkP ⟨[], [f]⟩) (hg : Laid w) (hV : ∀ (L : Option (List (List Int))) (k a e : Int), VpR ⟨[], [f]⟩ L k a e → e = 9 ∧ k = 0 ∧ a = pc ∧ L = none) :
    Calls Tryd.prog 14 #[.agg #[.string x.name, .int .i64 x.params, .int .i64 x.locals, x.cv, x.hv], .int .i64 pc] w fun e w' => e = .returned (.bool true) ∧ Below w.heap.size w w' := by
  have gl : 0 < w.heap.size := World.block_lt_of_cell? _ _ hg
  obtain ⟨nm, pr, lc, cv, hv⟩ := x
  have HF := hide h
  obtain ⟨e1, e2, e3, hc, hh⟩ := h
  simp only at e1 e2 e3
  subst e1 e2 e3
  obtain ⟨_, ca, ccap, ec, _, _, _⟩ := hc
  obtain ⟨_, ha, hcap, eh, _, _, _⟩ := hh
  simp only at ec eh
  subst ec eh
  obtain ⟨CL, hCL⟩ : ∃ n, Hid (f.code.length = n) := ⟨_, hide rfl⟩
  obtain ⟨HL, hHL⟩ : ∃ n, Hid (f.hs.length = n) := ⟨_, hide rfl⟩
  rw [unhide hCL, unhide hHL] at HF ⊢
  obtain ⟨W1, eW1⟩ : ∃ W1, W1 = w.alloc (.cells #[.string f.name, .int .i64 f.params, .int .i64 f.locals, .slice ca CL ccap, .slice ha HL hcap] 25) := ⟨_, rfl⟩
  have b1 : Below w.heap.size w W1 := by rw [eW1]; exact (Below.refl _ w).alloc (Nat.le_refl _) _
  have HC := hide (one_any ((unhide HF).below b1 (Nat.le_refl _)))
  have HB1 := hide b1
  have HLG := hide hg
  have HOK := hide hok
  have HV := hide hV
  clear b1 hV hok hg
  go_enter Tryd.func14, Tryd.ntmps14
  go_wp2_with fail
  rw [← eW1]
  refine (unhide HC).mono ?_
  rintro e W2 ⟨v, rfl, hP, hB2⟩
  have B2' : Below w.heap.size w W2 := (unhide HB1).trans (hB2.mono (unhide HB1).size)
  have HD := hide (program_any hP (unhide HOK) ((B2'.cell (p := ⟨0, 0, none⟩) gl).trans (unhide HLG)))
  have HB2 := hide B2'
  clear hP hB2 B2' eW1 HC
  go_wp2_with fail
  refine (unhide HD).mono ?_
  rintro e W3 ⟨fa, L, k, a, er, rfl, hV, hB3, hn, hs⟩
  obtain ⟨rfl, rfl, rfl, rfl⟩ := unhide HV _ _ _ _ hV
  have hfa := hn rfl
  subst hfa
  have HB3 : Hid (Below w.heap.size w W3) := (unhide HB2).trans (hB3.mono (unhide HB2).size)
  clear hV hB3 hn hs HD
  go_wp2_with fail
  go_ret
  exact ⟨rfl, ((unhide HB3).alloc (unhide HB3).size _).alloc (Nat.le_trans (unhide HB3).size (by simp)) _⟩
end Go.Proofs.YtiknljilfpekfaaDoor
