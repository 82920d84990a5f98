/-
  lives.
-/
import Derived.Test.YthmcalapofjmfabCS
namespace Go.Proofs.Ythmcalapofjmfab
open Go.RowKit Go.Maps
set_option linter.unusedVariables false

/-- A new index of texts, above all that came in. -/
def LX (w0 : World) (p : Nat) (ks : List Nat) (w : World) : Prop := ∃ b v, IxS w p b v ks ∧ (∀ x, Foot p b v x → w0.heap.size ≤ x) ∧ Below w0.heap.size w0 w
section
variable {w0 w : World} {p : Nat} {ks : List Nat}
theorem LX.bel (h : LX w0 p ks w) : Below w0.heap.size w0 w := by obtain ⟨b, v, _, _, h3⟩ := h; exact h3
theorem LX.new (w : World) : Calls Try.prog 4 #[] w fun e w' => ∃ p, e = .returned (.pointer (some ⟨p, 0, none⟩)) ∧ LX w p [] w' :=
  (newS_any w).mono (fun e w' ⟨h1, h2, h3⟩ => ⟨_, h1, _, _, h2, (fun x q => q.elim (fun q => by omega) (fun q => q.elim (fun q => by omega) (fun q => by simp [Value.ownBlock] at q))), h3⟩)
theorem LX.add (h : LX w0 p ks w) (k : Nat) (hk : k < 7) : Calls Try.prog 19 #[.pointer (some ⟨p, 0, none⟩), valS k] w fun e w' => e = .returned (.int .i64 ((num ks k : Nat) : Int)) ∧ LX w0 p (ins ks k) w' := by
  obtain ⟨b, v, h1, h2, h3⟩ := h
  refine (addS_any h1 k hk).mono (fun e w' ⟨k1, v', k2, k3⟩ => ⟨k1, b, v', k2, ?_, h3.trans (k3.fr.below h3.size (fun x hx q => by have := h2 x q; omega))⟩)
  rintro x (q | q | q)
  · exact h2 x (.inl q)
  · exact h2 x (.inr (.inl q))
  · rcases k3.row with r | r
    · exact h2 x (.inr (.inr (r.symm.trans q)))
    · have := r x q; have := h3.size; omega
theorem LX.find (h : LX w0 p ks w) (k : Nat) (hk : k < 7) : Calls Try.prog 15 #[.pointer (some ⟨p, 0, none⟩), valS k] w fun e w' => e = .returned (.tuple #[.int .i64 (((idx ks k).getD 0 : Nat) : Int), .bool (idx ks k).isSome]) ∧ LX w0 p ks w' := by
  obtain ⟨b, v, h1, h2, h3⟩ := h
  exact (findS_any h1 k hk).mono (fun e w' ⟨k1, k2⟩ => ⟨k1, b, v, h1.below k2, h2, h3.trans (k2.mono h3.size)⟩)
theorem LX.len (h : LX w0 p ks w) : Calls Try.prog 24 #[.pointer (some ⟨p, 0, none⟩)] w fun e w' => e = .returned (.int .i64 (ks.length : Int)) ∧ w' = w := by
  obtain ⟨b, v, h1, h2, h3⟩ := h
  exact lenS_any h1
end
theorem valS4 : valS 4 = .string ⟨#[111, 110, 101]⟩ := rfl
theorem valS5 : valS 5 = .string ⟨#[116, 119, 111]⟩ := rfl
theorem valS6 : valS 6 = .string ⟨#[116, 104, 114, 101, 101]⟩ := rfl

set_option maxRecDepth 100000 in
set_option maxHeartbeats 1600000 in
theorem lives_any (w : World) : Calls Try.prog 8 #[] w fun e w' => e = .returned (.bool true) ∧ Below w.heap.size w w' := by
  have hNew := hide (LX.new w)
  go_enter Try.func8, Try.ntmps8
  go_wp2_with fail
  refine (unhide hNew).mono ?_
  rintro e w1 ⟨p, rfl, hO⟩
  have hA := hide (hO.add 4 (by decide))
  clear hO hNew
  rw [show num [] 4 = 0 from by decide +kernel, valS4] at hA
  go_wp2_with fail
  refine (unhide hA).mono ?_
  rintro e w2 ⟨rfl, hO⟩
  rw [show ins [] 4 = [4] from by decide +kernel] at hO
  have hB := hide (hO.add 5 (by decide))
  rw [show num [4] 5 = 1 from by decide +kernel, valS5] at hB
  clear hO hA
  go_wp2_with fail
  refine (unhide hB).mono ?_
  rintro e w3 ⟨rfl, hO⟩
  rw [show ins [4] 5 = [4, 5] from by decide +kernel] at hO
  have hC := hide (hO.add 4 (by decide))
  rw [show num [4, 5] 4 = 0 from by decide +kernel, valS4] at hC
  clear hO hB
  go_wp2_with fail
  refine (unhide hC).mono ?_
  rintro e w4 ⟨rfl, hO⟩
  rw [show ins [4, 5] 4 = [4, 5] from by decide +kernel] at hO
  have hD := hide (hO.find 5 (by decide))
  rw [show idx [4, 5] 5 = some 1 from by decide +kernel, valS5] at hD
  simp only [Option.getD_some, Option.isSome_some] at hD
  clear hO hC
  go_wp2_with fail
  refine (unhide hD).mono ?_
  rintro e w5 ⟨rfl, hO⟩
  have hE := hide (hO.find 6 (by decide))
  rw [show idx [4, 5] 6 = none from by decide +kernel, valS6] at hE
  simp only [Option.getD_none, Option.isSome_none] at hE
  clear hO hD
  go_wp2_with fail
  refine (unhide hE).mono ?_
  rintro e w6 ⟨rfl, hO⟩
  have hL := hide hO.len
  have HB := hide hO.bel
  clear hO hE
  go_wp2_with fail
  refine (unhide hL).mono ?_
  rintro e w7 ⟨rfl, hw7⟩
  rw [hw7]
  clear hw7 w7 hL
  go_wp2
  go_ret
  exact ⟨rfl, unhide HB⟩
end Go.Proofs.Ythmcalapofjmfab
