/-
  How an operand is written.
-/
import Derived.Test.YtonnkaphomonpaaIRow
import Derived.Laws.EntriesVeiled
namespace Go.Proofs.Ytonnkaphomonpaa
open Go.RowKit

/-- The functions of a kind's form. -/
def wF (k : Nat) : Nat := if k = 0 then 54 else if k = 1 then 56 else 58
def rF (k : Nat) : Nat := if k = 0 then 55 else if k = 1 then 57 else 60

set_option maxRecDepth 100000 in
set_option maxHeartbeats 2000000 in
theorem formOf_any (w : World) (k : Nat) : Calls Try.prog 41 #[.int .i64 k] w fun e w' => e = .returned (.agg #[.func (Fn.func (wF k)) #[] #[], .func (Fn.func (rF k)) #[] #[]]) ∧ Below w.heap.size w w' := by
  by_cases h0 : k = 0
  · subst h0
    go_enter Try.func41, Try.ntmps41
    go_wp2
    refine bodyPost_ret (v := .agg #[.func (Fn.func 54) #[] #[], .func (Fn.func 55) #[] #[]]) ?_ rfl ⟨rfl, (Below.refl _ _).alloc (Nat.le_refl _) _⟩
    rw [results_cell_one rfl]
    go_simp
  · by_cases h1 : k = 1
    · subst h1
      go_enter Try.func41, Try.ntmps41
      go_wp2
      refine bodyPost_ret (v := .agg #[.func (Fn.func 56) #[] #[], .func (Fn.func 57) #[] #[]]) ?_ rfl ⟨rfl, (Below.refl _ _).alloc (Nat.le_refl _) _⟩
      rw [results_cell_one rfl]
      go_simp
    · have e1 : wF k = 58 := by unfold wF; rw [if_neg h0, if_neg h1]
      have e2 : rF k = 60 := by unfold rF; rw [if_neg h0, if_neg h1]
      rw [e1, e2]
      have d0 : ((k : Int) == 0) = false := by simp; omega
      have d1 : ((k : Int) == 1) = false := by simp; omega
      clear e1 e2 h0 h1
      go_enter Try.func41, Try.ntmps41
      go_wp2
      refine bodyPost_ret (v := .agg #[.func (Fn.func 58) #[] #[], .func (Fn.func 60) #[] #[]]) ?_ rfl ⟨rfl, (Below.refl _ _).alloc (Nat.le_refl _) _⟩
      rw [results_cell_one rfl]
      go_simp

/-- The form of an operand. -/
def opF (k : Nat) (a : Int) : List Int := if k = 0 then [] else if k = 1 then Wm.uform 9 (foldI a).toNat else Wm.uform 9 (a % 18446744073709551616).toNat
theorem wrap_u (a : Int) : IntKind.u64.wrap a = ((a % 18446744073709551616).toNat : Int) := by rw [IntKind.wrap_u64]; omega

set_option maxRecDepth 100000 in
set_option maxHeartbeats 2000000 in
theorem write_any (k : Nat) (p : Nat) (v : Value) (bs : List Int) (a : Int) (w : World) (h : Wtr w p v bs) (hb : bs.length + 10 ≤ 140737488355328) (ha : I64 a) :
    Calls Try.prog (wF k) #[.pointer (some ⟨p, 0, none⟩), .int .i64 a] w fun e w' => e = .returned (.tuple #[]) ∧ ∃ v', Wtr w' p v' (bs ++ opF k a) ∧ WStep p w v w' v' := by
  by_cases h0 : k = 0
  · subst h0
    have e : opF 0 a = [] := rfl
    have hh := hide h
    rw [e, List.append_nil]
    clear e h
    show Calls Try.prog 54 _ _ _
    go_enter Try.func54, Try.ntmps54
    go_wp2
    go_end0
    exact ⟨rfl, v, unhide hh, WStep.refl _ _ _⟩
  · by_cases h1 : k = 1
    · subst h1
      exact int_any p v bs a w h hb ha.1 ha.2
    · have e1 : wF k = 58 := by unfold wF; rw [if_neg h0, if_neg h1]
      have e2 : opF k a = Wm.uform 9 (a % 18446744073709551616).toNat := by unfold opF; rw [if_neg h0, if_neg h1]
      rw [e1, e2]
      have H1 := hide (uint_any p v bs (a % 18446744073709551616).toNat w h hb (by omega))
      have hw := wrap_u a
      generalize (a % 18446744073709551616).toNat = x at *
      clear e1 e2 h0 h1 h hb ha
      go_enter Try.func58, Try.ntmps58
      go_wp2_with fail
      refine (unhide H1).mono ?_
      rintro e w' ⟨rfl, hh⟩
      go_wp2
      go_end0
      exact ⟨rfl, hh⟩
end Go.Proofs.Ytonnkaphomonpaa
