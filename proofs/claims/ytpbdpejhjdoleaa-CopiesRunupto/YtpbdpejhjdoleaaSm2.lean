/-
  What is the same: instructions, codes.
-/
import Derived.Test.YtpbdpejhjdoleaaSm1
namespace Go.Proofs.Ytpbdpejhjdoleaa
open Go.RowKit
set_option linter.unusedVariables false
set_option linter.unusedSimpArgs false
def OkX (x : RIn) : Prop := x.args.length ≤ 1048576 ∧ x.ex.length ≤ 1048576 ∧ ∀ s ∈ x.ex, s.sl.length ≤ 1048576
set_option maxRecDepth 100000 in
set_option maxHeartbeats 6400000 in
theorem sameX_yes {w : World} {D D' : Nat → Prop} {x : RIn} {r q : InR} (ha : InP D w x r) (hb : InP D' w x q) (hM : OkX x) :
    Calls Try.prog 27 #[inV r, inV q] w fun e w' => e = .returned (.bool true) ∧ Below w.heap.size w w' := by
  obtain ⟨rop, rcode, rdst, av, rn, rpc, rneed, ev⟩ := r
  obtain ⟨qop, qcode, qdst, bv, qn, qpc, qneed, fv⟩ := q
  obtain ⟨h1, h2, h3, h4, h5, h6, h7, h8⟩ := ha
  obtain ⟨k1, k2, k3, k4, k5, k6, k7, k8⟩ := hb
  simp only at h1 h2 h3 h4 h5 h6 h7 h8 k1 k2 k3 k4 k5 k6 k7 k8
  obtain ⟨aa, ac, ea1, ha1, ha2⟩ := h7.1.shape
  obtain ⟨ea, ec, ee1, he1, he2⟩ := NV.shape h8
  obtain ⟨ba, bc, ea2, hb1, hb2⟩ := k7.1.shape
  obtain ⟨fa, fc, ee2, hf1, hf2⟩ := NV.shape k8
  subst ea1 ee1 ea2 ee2 h1 h2 h3 h4 h5 h6 k1 k2 k3 k4 k5 k6
  obtain ⟨AL, hAL⟩ : ∃ z, Hid (x.args.length = z) := ⟨_, hide rfl⟩
  obtain ⟨EL, hEL⟩ : ∃ z, Hid (x.ex.length = z) := ⟨_, hide rfl⟩
  have HO : Hid (∀ W, Below w.heap.size w W → Calls Try.prog 20 #[.slice aa AL ac, .slice ba AL bc] W fun e w' => e = .returned (.bool true) ∧ Below W.heap.size W w') := fun W hW => by
    rw [← unhide hAL]
    exact sameO_yes (h7.1.below hW (Nat.le_refl _)) (k7.1.below hW (Nat.le_refl _)) (by have := hM.1; omega)
  have HE : Hid (∀ W, Below w.heap.size w W → Calls Try.prog 43 #[.slice ea EL ec, .slice fa EL fc] W fun e w' => e = .returned (.bool true) ∧ Below W.heap.size W w') := fun W hW => by
    rw [← unhide hEL]
    exact sameS_yes (ShsV.mv.bel h8 hW) (ShsV.mv.bel k8 hW) (by have := hM.2.1; omega) (fun s hs => by have := hM.2.2 s hs; omega)
  unfold inV
  dsimp only
  rw [unhide hAL] at ha1 hb1 ⊢
  rw [unhide hEL] at he1 hf1 ⊢
  unfold maxLen at ha2 hb2 he2 hf2
  have H0 := hide (BX.two w #[.int .i64 x.op, .int .i64 x.code, .int .i64 x.dst, .slice aa AL ac, .int .i64 x.n, .int .i64 x.pc, .int .i64 x.need, .slice ea EL ec] #[.int .i64 x.op, .int .i64 x.code, .int .i64 x.dst, .slice ba AL bc, .int .i64 x.n, .int .i64 x.pc, .int .i64 x.need, .slice fa EL fc] 50 50)
  clear h7 h8 k7 k8 hM
  go_enter Try.func27, Try.ntmps27
  go_wp2_with fail
  refine (unhide HO _ (unhide H0).b).mono ?_
  rintro e w3 ⟨rfl, b3⟩
  have H3 := hide ((unhide H0).go b3)
  clear b3 H0
  have c7 := (unhide H3).ce 0 rfl 7
  have d7 := (unhide H3).ce 1 rfl 7
  have l0 := (unhide H3).lt (i := 0) rfl
  have l1 := (unhide H3).lt (i := 1) rfl
  simp at c7 d7 l0 l1
  go_wp2_with fail
  refine (unhide HE _ (unhide H3).b).mono ?_
  rintro e w4 ⟨rfl, b4⟩
  have H4 := hide ((unhide H3).go b4)
  clear c7 d7 l0 l1 b4
  go_wp2_with fail
  go_ret
  exact ⟨rfl, (unhide H4).b⟩
end Go.Proofs.Ytpbdpejhjdoleaa
