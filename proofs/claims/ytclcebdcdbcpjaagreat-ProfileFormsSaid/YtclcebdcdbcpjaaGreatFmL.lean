/-
  ProfileForms: its law.
-/
import Derived.Test.YtclcebdcdbcpjaaGreatSh1
import Derived.Test.YtclcebdcdbcpjaaGreatD12
namespace Go.Proofs.YtclcebdcdbcpjaaGreat
open Go.RowKit
set_option linter.unusedVariables false
set_option linter.unusedSimpArgs false
set_option maxRecDepth 100000 in
set_option maxHeartbeats 6400000 in
theorem formsLaw {w : World} {v : Value} {bs : List Int} (h : Rd w v bs) (hB : BOk bs) (hbl : bs.length ≤ 140737488355328) : Calls Tryz.prog 3 #[v] w fun e w' => e = .returned (.bool true) ∧ Below w.heap.size w w' := by
  have HD := hide (decode_any h hB hbl)
  have HR := hide h
  have HOK := hide hB
  obtain ⟨a, n, c, rfl⟩ : ∃ a n c, v = .slice a n c := by
    rcases h with ⟨rfl, _⟩ | ⟨b, off, cap, rfl, _⟩
    · exact ⟨_, _, _, rfl⟩
    · exact ⟨_, _, _, rfl⟩
  clear h hB
  go_enter Tryz.func3, Tryz.ntmps3
  go_wp2_with fail
  refine (unhide HD).mono ?_
  intro e w1 hd
  obtain ⟨hb1, hd⟩ := hd
  cases hq : decP bs with
  | error k =>
    rw [hq] at hd
    obtain ⟨hk, rfl⟩ := hd
    have nk : (k != 0) = true := by simpa using hk
    have HSH : Hid (∀ W, Below w.heap.size w W → Calls Tryz.prog 7 #[] W fun e w' => e = .returned (.bool true) ∧ Below w.heap.size w w') := fun W hW => (shown_any W).mono (fun e w' ⟨h1, h2⟩ => ⟨h1, hW.trans (h2.mono hW.size)⟩)
    have HB2 : Hid (∀ O, Below w.heap.size w (w1.alloc O)) := fun O => hb1.alloc hb1.size O
    clear hb1 hk hq HD HR HOK
    go_wp2_with fail
    refine (unhide HSH _ (unhide HB2 _)).mono ?_
    rintro e w2 ⟨rfl, hb2⟩
    have HB3 := hide hb2
    clear hb2 HSH HB2
    go_wp2_with fail
    go_ret
    exact ⟨rfl, unhide HB3⟩
  | ok f =>
    rw [hq] at hd
    obtain ⟨pv, vs, rfl, ho⟩ := hd
    obtain ⟨hf1, hf2, hf3⟩ := decP_one (unhide HOK) hq
    have HPF : Hid (∀ O, PfV (w1.alloc O) pv f) := fun O => (OW.ppf ho).below ((Below.refl _ w1).alloc (Nat.le_refl _) O) (Nat.le_refl _)
    have HENC := hide (fun O => encode_any (unhide HPF O) hf1)
    obtain ⟨pa, pc, epv, _, _⟩ := (OW.ppf ho).shape
    subst epv
    have HB2 : Hid (∀ O, Below w.heap.size w (w1.alloc O)) := fun O => hb1.alloc hb1.size O
    have HF2 := hide hf2
    have HF3 := hide hf3
    clear hb1 ho hf1 hf2 hf3 hq HD HPF
    obtain ⟨FL, hFL⟩ : ∃ FL, Hid (f.length = FL) := ⟨_, hide rfl⟩
    rw [unhide hFL] at HENC ⊢
    go_wp2_with fail
    refine (unhide HENC _).mono ?_
    intro e w2 h2
    rcases h2 with ⟨h1, _⟩ | ⟨-, bv, rfl, hown, hb2⟩
    · exact absurd (unhide HF2) h1
    have HBW : Hid (Below w.heap.size w w2) := (unhide HB2 _).trans (hb2.mono (unhide HB2 _).size)
    have HSM : Hid (Calls Tryz.prog 9 #[bv, .slice a n c] w2 fun e w' => e = .returned (.bool true) ∧ Below w.heap.size w w') := (same_any bv (.slice a n c) bs w2 (by rw [← unhide HF3]; exact Rd.of_own hown) ((unhide HR).below (unhide HBW))).mono (fun e w' ⟨h1, k, h2⟩ => ⟨h1, by
      rw [h2]
      exact (unhide HBW).trans ((Fr.drewN (S := fun _ => False) k).below (unhide HBW).size (fun _ _ e => e))⟩)
    clear hown hb2 HENC HB2
    go_wp2_with fail
    refine (unhide HSM).mono ?_
    rintro e w3 ⟨rfl, hb3⟩
    have HB3 := hide hb3
    clear hb3 HSM
    go_wp2_with fail
    go_ret
    exact ⟨rfl, unhide HB3⟩
end Go.Proofs.YtclcebdcdbcpjaaGreat
