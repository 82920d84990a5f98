/-
  A field is read.
-/
import Derived.Test.YtclcebdcdbcpjaaGreatMeths2
import Derived.Test.YtclcebdcdbcpjaaGreatRaw
import Derived.Test.YtclcebdcdbcpjaaGreatOneMath
import Derived.Test.YtclcebdcdbcpjaaGreatE1
namespace Go.Proofs.YtclcebdcdbcpjaaGreat
open Go.RowKit
set_option linter.unusedVariables false
set_option linter.unusedSimpArgs false
/-- Does it fit? -/
def fB (k : Nat) (x : Int) : Bool := if k = 0 then decide (0 ≤ x ∧ x ≤ 9223372036854775807) else if k = 3 then decide (-1 ≤ x ∧ x ≤ 128) else decide (0 ≤ x ∧ x ≤ 1023)
theorem fits_any {k : Nat} (hk : k < 4) (w : World) (x : Int) : Calls Tryz.prog 74 #[.int .i64 (k : Int), .int .i64 x] w fun e w' => e = .returned (.bool (fB k x)) ∧ w' = w := by
  have : k = 0 ∨ k = 1 ∨ k = 2 ∨ k = 3 := by omega
  rcases this with rfl | rfl | rfl | rfl
  · exact fits0 w x
  · exact fits1 w x
  · exact fits2 w x
  · exact fits3 w x
/-- The number that lies there. -/
def fX (k x : Nat) : Int := if k = 3 then unfoldI x else IntKind.i64.wrap (x : Int)
def rdF (k : Nat) (bs : List Int) : Except Int (Int × List Int) :=
  match unum 0 0 bs with
  | .error e => .error e
  | .ok (x, t) => if fX k x = 0 then .error 4 else if fB k (fX k x) = true then .ok (fX k x, t) else .error 1
def FdP (r rb : Nat) (w : World) (o : Except Int (Int × List Int)) (e : Ending) (w' : World) : Prop := RFr r w w' ∧
  match o with
  | .error k => k ≠ 0 ∧ e = .returned (.tuple #[.int .i64 0, .int .i64 k])
  | .ok (x, t) => e = .returned (.tuple #[.int .i64 x, .int .i64 0]) ∧ ∃ v2, Rdr w' r rb v2 t 0
/-- What its own call answers. -/
theorem fNum (k : Nat) (r : Nat) {rb : Nat} (v : Value) (bs : List Int) (w : World) (h : Rdr w r rb v bs 0) (hB : BOk bs) : (∀ e, unum 0 0 bs = .error e → e ≠ 0) := fun e he => unum_err 0 0 bs e he
set_option maxRecDepth 100000 in
set_option maxHeartbeats 3200000 in
theorem readField_any (k : Nat) (hk : k < 4) (r : Nat) {rb : Nat} (v : Value) (bs : List Int) (w : World) (h : Rdr w r rb v bs 0) (hB : BOk bs) :
    Calls Tryz.prog 86 #[.pointer (some ⟨r, 0, none⟩), .int .i64 (k : Int)] w (FdP r rb w (rdF k bs)) := by
  have HFT := hide (fun (W : World) (x : Int) => fits_any hk W x)
  have HE := hide (fun e (he : unum 0 0 bs = .error e) => unum_err 0 0 bs e he)
  have HRI := hide (rInt_any r v bs 0 w h hB)
  have HRU := hide (rUint_any r v bs 0 w h hB)
  have HER := hide (fun (W : World) (v2 : Value) (b2 : List Int) (e2 : Int) (h2 : Rdr W r rb v2 b2 e2) => rErr_any r v2 b2 e2 W h2)
  clear h hB
  cases hu : unum 0 0 bs with
  | error e0 =>
    have he0 := unhide HE e0 hu
    have hbe : (e0 != 0) = true := by simpa using he0
    have HO : Hid (rdF k bs = .error e0) := by unfold Hid rdF; rw [hu]
    rw [unhide HO]
    rw [hu] at HRI HRU
    simp only [gNum, rres, ↓reduceIte] at HRI HRU
    by_cases h3 : k = 3
    · subst h3
      go_enter Tryz.func86, Tryz.ntmps86
      go_wp2_with fail
      refine (unhide HRI).mono ?_
      rintro e w1 ⟨rfl, v2, h2, f2⟩
      have HH2 := hide h2
      have HF2 := hide f2
      clear h2 f2
      go_wp2_with fail
      refine (unhide HER _ _ _ _ (unhide HH2)).mono ?_
      rintro e w' ⟨rfl, e1⟩
      have e2 := e1.symm
      subst e2
      clear e1
      go_wp2_with fail
      refine (unhide HER _ _ _ _ (unhide HH2)).mono ?_
      rintro e w' ⟨rfl, e1⟩
      have e2 := e1.symm
      subst e2
      clear e1
      go_wp2_with fail
      go_ret2
      exact ⟨unhide HF2, he0, rfl⟩
    · have d3 : ((k : Int) == 3) = false := by simp; omega
      have n3 : ¬ ((k : Int) = 3) := by omega
      go_enter Tryz.func86, Tryz.ntmps86
      go_wp2_with fail
      refine (unhide HRU).mono ?_
      rintro e w1 ⟨rfl, v2, h2, f2⟩
      have HH2 := hide h2
      have HF2 := hide f2
      clear h2 f2
      go_wp2_with fail
      refine (unhide HER _ _ _ _ (unhide HH2)).mono ?_
      rintro e w' ⟨rfl, e1⟩
      have e2 := e1.symm
      subst e2
      clear e1
      go_wp2_with fail
      refine (unhide HER _ _ _ _ (unhide HH2)).mono ?_
      rintro e w' ⟨rfl, e1⟩
      have e2 := e1.symm
      subst e2
      clear e1
      go_wp2_with fail
      go_ret2
      exact ⟨unhide HF2, he0, rfl⟩
  | ok p =>
    obtain ⟨x, t⟩ := p
    rw [hu] at HRI HRU
    simp only [gNum, rres, ↓reduceIte] at HRI HRU
    have HO : Hid (rdF k bs = if fX k x = 0 then .error 4 else if fB k (fX k x) = true then .ok (fX k x, t) else .error 1) := by unfold Hid rdF; rw [hu]
    rw [unhide HO]
    by_cases h3 : k = 3
    · subst h3
      obtain ⟨X, hX⟩ : ∃ X, Hid (fX 3 x = X) := ⟨_, hide rfl⟩
      have HXI : Hid (unfoldI x = X) := unhide hX
      rw [unhide hX]
      rw [unhide HXI] at HRI
      have HFT' := hide (fun W => unhide HFT W X)
      clear HFT HE
      by_cases hz : X = 0
      · rw [if_pos hz]
        have dz : (X == 0) = true := by simpa using hz
        subst hz
        go_enter Tryz.func86, Tryz.ntmps86
        go_wp2_with fail
        refine (unhide HRI).mono ?_
        rintro e w1 ⟨rfl, v2, h2, f2⟩
        have HH2 := hide h2
        have HF2 := hide f2
        clear h2 f2
        go_wp2_with fail
        refine (unhide HER _ _ _ _ (unhide HH2)).mono ?_
        rintro e w' ⟨rfl, e1⟩
        have e2 := e1.symm
        subst e2
        clear e1
        go_wp2_with fail
        go_ret2
        exact ⟨unhide HF2, by decide, rfl⟩
      · rw [if_neg hz]
        have dz : (X == 0) = false := by simpa using hz
        cases hf : fB 3 X with
        | true =>
          rw [if_pos rfl]
          rw [hf] at HFT'
          go_enter Tryz.func86, Tryz.ntmps86
          go_wp2_with fail
          refine (unhide HRI).mono ?_
          rintro e w1 ⟨rfl, v2, h2, f2⟩
          have HH2 := hide h2
          have HF2 := hide f2
          clear h2 f2
          go_wp2_with fail
          refine (unhide HER _ _ _ _ (unhide HH2)).mono ?_
          rintro e w' ⟨rfl, e1⟩
          have e2 := e1.symm
          subst e2
          clear e1
          go_wp2_with fail
          refine (unhide HFT' _).mono ?_
          rintro e w' ⟨rfl, e1⟩
          have e2 := e1.symm
          subst e2
          clear e1
          go_wp2_with fail
          go_ret2
          exact ⟨unhide HF2, rfl, v2, unhide HH2⟩
        | false =>
          rw [if_neg (by simp)]
          rw [hf] at HFT'
          go_enter Tryz.func86, Tryz.ntmps86
          go_wp2_with fail
          refine (unhide HRI).mono ?_
          rintro e w1 ⟨rfl, v2, h2, f2⟩
          have HH2 := hide h2
          have HF2 := hide f2
          clear h2 f2
          go_wp2_with fail
          refine (unhide HER _ _ _ _ (unhide HH2)).mono ?_
          rintro e w' ⟨rfl, e1⟩
          have e2 := e1.symm
          subst e2
          clear e1
          go_wp2_with fail
          refine (unhide HFT' _).mono ?_
          rintro e w' ⟨rfl, e1⟩
          have e2 := e1.symm
          subst e2
          clear e1
          go_wp2_with fail
          go_ret2
          exact ⟨unhide HF2, by decide, rfl⟩
    · have d3 : ((k : Int) == 3) = false := by simp; omega
      have n3 : ¬ ((k : Int) = 3) := by omega
      obtain ⟨X, hX⟩ : ∃ X, Hid (fX k x = X) := ⟨_, hide rfl⟩
      have HXI : IntKind.i64.wrap (x : Int) = X := by have := unhide hX; unfold fX at this; rwa [if_neg h3] at this
      rw [unhide hX]
      have HFT' := hide (fun W => unhide HFT W X)
      clear HFT HE
      by_cases hz : X = 0
      · rw [if_pos hz]
        have dz : (X == 0) = true := by simpa using hz
        subst hz
        go_enter Tryz.func86, Tryz.ntmps86
        go_wp2_with fail
        refine (unhide HRU).mono ?_
        rintro e w1 ⟨rfl, v2, h2, f2⟩
        have HH2 := hide h2
        have HF2 := hide f2
        clear h2 f2
        go_wp2_with fail
        refine (unhide HER _ _ _ _ (unhide HH2)).mono ?_
        rintro e w' ⟨rfl, e1⟩
        have e2 := e1.symm
        subst e2
        clear e1
        go_wp2_with fail
        go_ret2
        exact ⟨unhide HF2, by decide, rfl⟩
      · rw [if_neg hz]
        have dz : (X == 0) = false := by simpa using hz
        cases hf : fB k X with
        | true =>
          rw [if_pos rfl]
          rw [hf] at HFT'
          go_enter Tryz.func86, Tryz.ntmps86
          go_wp2_with fail
          refine (unhide HRU).mono ?_
          rintro e w1 ⟨rfl, v2, h2, f2⟩
          have HH2 := hide h2
          have HF2 := hide f2
          clear h2 f2
          go_wp2_with fail
          refine (unhide HER _ _ _ _ (unhide HH2)).mono ?_
          rintro e w' ⟨rfl, e1⟩
          have e2 := e1.symm
          subst e2
          clear e1
          go_wp2_with fail
          refine (unhide HFT' _).mono ?_
          rintro e w' ⟨rfl, e1⟩
          have e2 := e1.symm
          subst e2
          clear e1
          go_wp2_with fail
          go_ret2
          exact ⟨unhide HF2, rfl, v2, unhide HH2⟩
        | false =>
          rw [if_neg (by simp)]
          rw [hf] at HFT'
          go_enter Tryz.func86, Tryz.ntmps86
          go_wp2_with fail
          refine (unhide HRU).mono ?_
          rintro e w1 ⟨rfl, v2, h2, f2⟩
          have HH2 := hide h2
          have HF2 := hide f2
          clear h2 f2
          go_wp2_with fail
          refine (unhide HER _ _ _ _ (unhide HH2)).mono ?_
          rintro e w' ⟨rfl, e1⟩
          have e2 := e1.symm
          subst e2
          clear e1
          go_wp2_with fail
          refine (unhide HFT' _).mono ?_
          rintro e w' ⟨rfl, e1⟩
          have e2 := e1.symm
          subst e2
          clear e1
          go_wp2_with fail
          go_ret2
          exact ⟨unhide HF2, by decide, rfl⟩
end Go.Proofs.YtclcebdcdbcpjaaGreat
