/-
  The example, told of lists: what is wanted in it, what is taken out.
-/
import Derived.Test.YtpbdmbmafjkinaaDoorTw1
import Derived.Test.YtpbdmbmafjkinaaDoorAf
namespace Go.Proofs.YtpbdmbmafjkinaaDoor
set_option linter.unusedVariables false
set_option linter.unusedSimpArgs false
def knX : List RIn := [⟨1, 0, 2, [⟨0, 0⟩], 0, 0, 0, []⟩, ⟨2, 12, 3, [⟨0, 2⟩, ⟨3, 5⟩], 2, 0, 0, []⟩, ⟨1, 0, 2, [⟨1, 0⟩], 0, 0, 0, []⟩, ⟨6, 0, -1, [], 0, 0, 0, [⟨0, 0, [⟨0, 0⟩, ⟨0, 2⟩]⟩]⟩, ⟨7, 0, -1, [], 0, 0, 0, []⟩]
def knY : List RIn := [⟨6, 0, -1, [], 0, 0, 0, [⟨0, 0, [⟨0, 0⟩, ⟨0, 1⟩]⟩]⟩, ⟨9, 0, -1, [], 0, 0, 0, [⟨0, 0, [⟨0, 0⟩, ⟨0, 1⟩]⟩]⟩]
def knL (k : Nat) : List Bk := [⟨0, knX.drop k, [1]⟩, ⟨9, knY, []⟩]
def S00 : Rset := fun _ => false
def S01 : Rset := fun r => decide (r = 0) || decide (r = 1)
def S012 : Rset := fun r => decide (r = 0) || (decide (r = 1) || decide (r = 2))
def S02 : Rset := fun r => decide (r = 0) || decide (r = 2)
theorem natc (a r : Nat) : decide ((a : Int) = (r : Int)) = decide (r = a) := by
  by_cases h : r = a
  · subst h; simp
  · rw [decide_eq_false h, decide_eq_false (by omega)]
theorem kn_tail : backL S00 knY = S01 := by
  funext r
  by_cases h0 : r = 0
  · subst h0; rfl
  · by_cases h1 : r = 1
    · subst h1; rfl
    · have e0 : ¬ (0 : Int) = (r : Int) := by omega
      have e1 : ¬ (1 : Int) = (r : Int) := by omega
      simp [backL, knY, backS, idle, quiet, askE, askL, S00, S01, h0, h1, e0, e1]
theorem kn_4 : backL S01 (knX.drop 4) = S01 := by
  funext r
  have e : ¬ (-1 : Int) = (r : Int) := by omega
  simp [backL, knX, backS, idle, quiet, askE, askL, e]
theorem kn_3 : backL S01 (knX.drop 3) = S012 := by
  funext r
  have e : ¬ (-1 : Int) = (r : Int) := by omega
  by_cases h0 : r = 0
  · subst h0; rfl
  · by_cases h1 : r = 1
    · subst h1; rfl
    · by_cases h2 : r = 2
      · subst h2; rfl
      · have e0 : ¬ (0 : Int) = (r : Int) := by omega
        have e1 : ¬ (1 : Int) = (r : Int) := by omega
        have e2 : ¬ (2 : Int) = (r : Int) := by omega
        simp [backL, knX, backS, idle, quiet, askE, askL, S01, S012, h0, h1, h2, e0, e1, e2]
theorem backL_at (S : Rset) {l : List RIn} {i : Nat} {x : RIn} (h : l[i]? = some x) : backL S (l.drop i) = backS (backL S (l.drop (i + 1))) x := backL_drop S l h
theorem kn_2 : backL S01 (knX.drop 2) = S01 := by
  rw [backL_at S01 (l := knX) (i := 2) rfl, kn_3]
  funext r
  by_cases h0 : r = 0
  · subst h0; rfl
  · by_cases h1 : r = 1
    · subst h1; rfl
    · by_cases h2 : r = 2
      · subst h2; rfl
      · have e0 : ¬ (0 : Int) = (r : Int) := by omega
        have e1 : ¬ (1 : Int) = (r : Int) := by omega
        have e2 : ¬ (2 : Int) = (r : Int) := by omega
        simp [backS, idle, quiet, askE, askL, inS, S01, S012, h0, h1, h2, e0, e1, e2]
theorem kn_1 : backL S01 (knX.drop 1) = S01 := by
  rw [backL_at S01 (l := knX) (i := 1) rfl, kn_2]
  exact backS_idle rfl
theorem kn_0 : backL S01 knX = S01 := by
  have q := backL_at S01 (l := knX) (i := 0) rfl
  rw [kn_1] at q
  exact q.trans (backS_idle rfl)
theorem kn_wS (b : Nat) : (if b = 0 then S01 else S00) = wS (knL 0) b := by
  refine wS_eq (B := fun b => if b = 0 then S01 else S00) (fun b r h => ?_) (fun b n u t hu ht hn => ?_) b
  · by_cases e : b = 0
    · subst e
      have q := wS_closed (knL 0) 0 1 _ _ rfl rfl (by simp) r
      refine q (backL_mono (S := S00) (fun _ z => by cases z) knY r ?_)
      rw [kn_tail]
      exact h
    · rw [if_neg e] at h
      cases h
  · have hb : b = 0 := by
      match b, hu with
      | 0, _ => rfl
      | 1, h => simp [knL] at h; subst h; simp at hn
      | b + 2, h => simp [knL] at h
    subst hb
    simp [knL] at hu
    subst hu
    have hn1 : n = 1 := by simp at hn; omega
    subst hn1
    simp [knL] at ht
    subst ht
    simp only [if_true, if_neg (show ¬ (1 : Nat) = 0 by omega), kn_tail]
    exact Sub.refl _
theorem kn_w0 : wS (knL 0) 0 = S01 := (kn_wS 0).symm
theorem kn_w1 : wS (knL 0) 1 = S00 := (kn_wS 1).symm
theorem rg01 : regsOf S01 = [0, 1] := by decide +kernel
theorem rg012 : regsOf S012 = [0, 1, 2] := by decide +kernel
theorem kn_a4 : aft (knL 0) 0 4 = [0, 1] := by
  rw [show (0 : Int) = ((0 : Nat) : Int) from rfl, show (4 : Int) = ((4 : Nat) : Int) from rfl, aft_yes (bl := knL 0) (b := 0) (i := 4) rfl (by decide), kn_w0]
  exact rg01
theorem kn_a2 : aft (knL 0) 0 2 = [0, 1, 2] := by
  rw [show (0 : Int) = ((0 : Nat) : Int) from rfl, show (2 : Int) = ((2 : Nat) : Int) from rfl, aft_yes (bl := knL 0) (b := 0) (i := 2) rfl (by decide), kn_w0]
  show regsOf (backL S01 (knX.drop 3)) = _
  rw [kn_3]
  exact rg012
theorem kn_a1 : aft (knL 0) 0 1 = [0, 1] := by
  rw [show (0 : Int) = ((0 : Nat) : Int) from rfl, show (1 : Int) = ((1 : Nat) : Int) from rfl, aft_yes (bl := knL 0) (b := 0) (i := 1) rfl (by decide), kn_w0]
  show regsOf (backL S01 (knX.drop 2)) = _
  rw [kn_2]
  exact rg01
theorem kn_a0 : aft (knL 0) 0 0 = [0, 1] := by
  rw [show (0 : Int) = ((0 : Nat) : Int) from rfl, aft_yes (bl := knL 0) (b := 0) (i := 0) rfl (by decide), kn_w0]
  show regsOf (backL S01 (knX.drop 1)) = _
  rw [kn_1]
  exact rg01
theorem kn_a5 : aft (knL 0) 0 5 = [] := by
  rw [show (0 : Int) = ((0 : Nat) : Int) from rfl]
  exact aft_no (bl := knL 0) (b := 0) rfl (.inr (by decide))
theorem kn_a20 : aft (knL 0) 2 0 = [] := aft_out _ _ (by decide)
theorem kn_kep : kepC (knL 0) = knL 2 := by
  have h0 : kepL (wS (knL 0) 0) knX = knX.drop 2 := by
    rw [kn_w0]
    have q0 := kepL_drop S01 knX (i := 0) rfl
    have q1 := kepL_drop S01 knX (i := 1) rfl
    have q2 := kepL_drop S01 knX (i := 2) rfl
    have q3 := kepL_drop S01 knX (i := 3) rfl
    have q4 := kepL_drop S01 knX (i := 4) rfl
    rw [kn_1, if_pos (show idle S01 ⟨1, 0, 2, [⟨0, 0⟩], 0, 0, 0, []⟩ = true from rfl)] at q0
    rw [kn_2, if_pos (show idle S01 ⟨2, 12, 3, [⟨0, 2⟩, ⟨3, 5⟩], 2, 0, 0, []⟩ = true from rfl)] at q1
    rw [kn_3, if_neg (by decide)] at q2
    rw [kn_4, if_neg (by decide)] at q3
    rw [if_neg (by decide)] at q4
    have e : kepL S01 knX = kepL S01 (knX.drop 1) := q0
    rw [e, q1, q2, q3, q4]
    rfl
  have h1 : kepL (wS (knL 0) 1) knY = knY := by
    rw [kn_w1]
    rfl
  show [kepB (knL 0) 0 _, kepB (knL 0) 1 _] = _
  unfold kepB knL
  simp only [List.drop_zero]
  show [(⟨0, kepL (wS (knL 0) 0) knX, [1]⟩ : Bk), ⟨9, kepL (wS (knL 0) 1) knY, []⟩] = _
  rw [h0, h1]
end Go.Proofs.YtpbdmbmafjkinaaDoor
