/-
  How many bits are 0 below the lowest one: by the table.
-/
import Derived.Test.YtpbdmbmafjkinaaDoorBt
import Derived.Test.YtpbdmbmafjkinaaDoorSe0
namespace Go.Proofs.YtpbdmbmafjkinaaDoor
open Go.RowKit
set_option linter.unusedVariables false
set_option linter.unusedSimpArgs false
def ttab : List Int := [0, 1, 56, 2, 57, 49, 28, 3, 61, 58, 42, 50, 38, 29, 17, 4, 62, 47, 59, 36, 45, 43, 51, 22, 53, 39, 33, 30, 24, 18, 12, 5, 63, 55, 48, 27, 60, 41, 37, 16, 46, 35, 44, 21, 52, 32, 23, 11, 54, 26, 40, 15, 34, 20, 31, 10, 25, 14, 19, 9, 13, 8, 7, 6]
theorem ttab_len : ttab.length = 64 := rfl
/-- The table lies in block 0. -/
def TT (w : World) : Prop := 0 < w.heap.size ∧ ∀ i, i < 64 → w.cell? ⟨0, i, none⟩ = some (.int .u8 (ttab.getD i 0))
theorem TT.below {w w' : World} (h : TT w) {B : Nat} (hB : 0 < B) (f : Below B w w') : TT w' :=
  ⟨Nat.lt_of_lt_of_le h.1 f.size, fun i hi => (World.cell?_of_block (w := w) (f.block 0 hB)).trans (h.2 i hi)⟩
theorem TT.fr {S : Nat → Prop} {w w' : World} (h : TT w) (f : Fr S w w') (h0 : ¬ S 0) : TT w' :=
  ⟨Nat.lt_of_lt_of_le h.1 f.size, fun i hi => (World.cell?_of_block (w := w) (f.block 0 h.1 h0)).trans (h.2 i hi)⟩
def tix (t : Nat) : Nat := (2 ^ t * 285870213051353865) % 18446744073709551616 / 288230376151711744
theorem tix_ok : ∀ t, t < 64 → tix t < 64 ∧ ttab.getD (tix t) 0 = (t : Int) := by decide +kernel
theorem wrap_neg {a : Nat} (h0 : 0 < a) (h : a < 18446744073709551616) : IntKind.u64.wrap (-(a : Int)) = ((18446744073709551616 - a : Nat) : Int) := by
  unfold IntKind.wrap
  simp [IntKind.bits, IntKind.signed]
  omega
theorem wrap_mul (x : Nat) : IntKind.u64.wrap ((x : Int) * 285870213051353865) = ((x * 285870213051353865 % 18446744073709551616 : Nat) : Int) := by
  unfold IntKind.wrap
  simp [IntKind.bits, IntKind.signed]
set_option maxRecDepth 100000 in
set_option maxHeartbeats 3200000 in
theorem tz_any {w : World} (hT : TT w) {a t : Nat} (ha : a < 18446744073709551616) (h1 : a.testBit t = true) (h2 : ∀ i, i < t → a.testBit i = false) :
    Calls Tryd.prog 46 #[.int .u64 (a : Int)] w fun e w' => e = .returned (.int .i64 (t : Int)) ∧ ∃ m, w' = w.drewN m := by
  have ha0 : 0 < a := Nat.pos_of_ne_zero (fun e => by subst e; simp at h1)
  have ht : t < 64 := by
    refine Classical.byContradiction (fun q => ?_)
    have : a.testBit t = false := Nat.testBit_lt_two_pow (Nat.lt_of_lt_of_le ha (Nat.pow_le_pow_right (n := 2) (i := 64) (by omega) (by omega)))
    rw [this] at h1; cases h1
  obtain ⟨q1, q2⟩ := tix_ok t ht
  have e1 := wrap_neg ha0 ha
  have e2 := bitsAnd (a := a) (b := 18446744073709551616 - a) ha (by omega)
  rw [neg_low ha h1 h2] at e2
  have e3 := wrap_mul (2 ^ t)
  obtain ⟨P, hP⟩ : ∃ P, Hid (2 ^ t = P) := ⟨_, hide rfl⟩
  rw [unhide hP] at e2 e3
  obtain ⟨N, hN⟩ : ∃ N, Hid (18446744073709551616 - a = N) := ⟨_, hide rfl⟩
  rw [unhide hN] at e1 e2
  obtain ⟨M, hM⟩ : ∃ M, Hid (P * 285870213051353865 % 18446744073709551616 = M) := ⟨_, hide rfl⟩
  rw [unhide hM] at e3
  have i0 : ¬ (a : Int) = 0 := by omega
  have c0 := hT.2 _ q1
  obtain ⟨X, hX⟩ : ∃ X, Hid (tix t = X) := ⟨_, hide rfl⟩
  have e4 : (M : Int) / 288230376151711744 = (X : Int) := by
    have := unhide hX
    unfold tix at this
    rw [unhide hP, unhide hM] at this
    omega
  rw [q2, unhide hX] at c0
  rw [unhide hX] at q1
  clear h1 h2 hP hN hM hX q2
  go_enter Tryd.func46, Tryd.ntmps46
  go_wp2_with fail
  go_ret
  exact ⟨rfl, 0, rfl⟩
end Go.Proofs.YtpbdmbmafjkinaaDoor
