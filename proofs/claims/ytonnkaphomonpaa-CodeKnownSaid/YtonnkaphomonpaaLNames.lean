/-
  Names.
-/
import Derived.Test.YtonnkaphomonpaaName
import Derived.BigQuiet
import Derived.Deep.Draws
namespace Go.Proofs.Ytonnkaphomonpaa
open Go.RowKit

theorem eqs_no {s t : ByteArray} (h : s ≠ t) : (s.toList == t.toList) = false := by
  simp only [ByteArray.toList_eq, beq_eq_false_iff_ne, ne_eq, Array.toList_inj]
  intro e
  cases s; cases t
  exact h (by simpa using e)

/-- What is found of a name. -/
structure Fd (s : ByteArray) (a : Int) (b : Bool) : Prop where
  yes : b = true → ∃ k : Nat, k < 67 ∧ a = k ∧ nm k = s ∧ ∀ j, j < k → nm j ≠ s
  no : b = false → a = 0 ∧ ∀ j, j < 67 → nm j ≠ s
theorem Fd.unique {s : ByteArray} {a a' : Int} {b b' : Bool} (h : Fd s a b) (h' : Fd s a' b') : a = a' ∧ b = b' := by
  cases b <;> cases b'
  · exact ⟨(h.no rfl).1.trans (h'.no rfl).1.symm, rfl⟩
  · obtain ⟨k, hk, _, he, _⟩ := h'.yes rfl
    exact absurd he ((h.no rfl).2 k hk)
  · obtain ⟨k, hk, _, he, _⟩ := h.yes rfl
    exact absurd he ((h'.no rfl).2 k hk)
  · obtain ⟨k, hk, rfl, he, hf⟩ := h.yes rfl
    obtain ⟨k', hk', rfl, he', hf'⟩ := h'.yes rfl
    refine ⟨?_, rfl⟩
    rcases Nat.lt_trichotomy k k' with c | c | c
    · exact absurd he (hf' k c)
    · rw [c]
    · exact absurd he' (hf k' c)

set_option maxRecDepth 100000 in
set_option maxHeartbeats 1000000 in
theorem find_any (w : World) (s : ByteArray) : Calls Try.prog 35 #[.string s] w fun e w' => (∃ a b, e = .returned (.tuple #[.int .i64 a, .bool b]) ∧ Fd s a b) ∧ w' = w := by
  have HN := hide nameOf_any
  go_enter Try.func35, Try.ntmps35
  go_wp2
  go_loopg [5] 67 (fun g t5 wr => ∃ (i : Nat), Hid (i + g = 67) ∧ t5 = .int .i64 (i : Int) ∧ wr = w ∧ Hid (∀ j, j < i → nm j ≠ s))
  case atStart => exact ⟨0, rfl, rfl, rfl, fun j hj => by omega⟩
  case round =>
    obtain ⟨i, hi, rfl, rfl, hno⟩ := hrel
    by_cases hlt : i < 67
    · have H1 := hide (unhide HN wr i hlt)
      by_cases he : nm i = s
      · have HE := hide he
        rw [he] at H1
        clear he
        go_wp2_with fail
        refine (unhide H1).mono ?_
        rintro e w1 ⟨rfl, rfl⟩
        go_wp2
        go_ret2
        exact ⟨⟨_, _, rfl, ⟨fun _ => ⟨i, hlt, rfl, unhide HE, unhide hno⟩, (fun e => by cases e)⟩⟩, rfl⟩
      · have HE := hide he
        have hb := eqs_no he
        obtain ⟨t, ht⟩ : ∃ t, Hid (t = nm i) := ⟨_, rfl⟩
        rw [← unhide ht] at H1 hb
        clear he
        go_wp2_with fail
        refine (unhide H1).mono ?_
        rintro e w1 ⟨rfl, rfl⟩
        go_wp2
        go_roundg (gk - 1)
        case measure => have := unhide hi; omega
        case rel =>
          refine ⟨i + 1, ?_, by go_num, rfl, ?_⟩
          · have := unhide hi; unfold Hid; omega
          · intro j hj
            by_cases e : j = i
            · subst e; exact unhide HE
            · exact unhide hno j (by omega)
    · have hi0 : i = 67 := by have := unhide hi; omega
      subst hi0
      go_wp2
      go_ret2
      exact ⟨⟨_, _, rfl, ⟨(fun e => by cases e), fun _ => ⟨rfl, unhide hno⟩⟩⟩, rfl⟩

set_option maxRecDepth 100000 in
set_option maxHeartbeats 1000000 in
theorem dFind_any (w : World) (s : ByteArray) : Calls Try.prog 34 #[.string s] w fun e w' => (∃ a b, e = .returned (.tuple #[.int .i64 a, .bool b]) ∧ Fd s a b) ∧ w' = w := by
  have HN := hide dName_any
  go_enter Try.func34, Try.ntmps34
  go_wp2
  go_loopg [4] 67 (fun g t5 wr => ∃ (i : Nat), Hid (i + g = 67) ∧ t5 = .int .i64 (i : Int) ∧ wr = w ∧ Hid (∀ j, j < i → nm j ≠ s))
  case atStart => exact ⟨0, rfl, rfl, rfl, fun j hj => by omega⟩
  case round =>
    obtain ⟨i, hi, rfl, rfl, hno⟩ := hrel
    by_cases hlt : i < 67
    · have h1 := unhide HN wr (i : Int)
      rw [nmI_nat hlt, isOp_nat hlt] at h1
      have H1 := hide h1
      clear h1
      by_cases he : nm i = s
      · have HE := hide he
        rw [he] at H1
        clear he
        go_wp2_with fail
        refine (unhide H1).mono ?_
        rintro e w1 ⟨rfl, rfl⟩
        go_wp2
        go_ret2
        exact ⟨⟨_, _, rfl, ⟨fun _ => ⟨i, hlt, rfl, unhide HE, unhide hno⟩, (fun e => by cases e)⟩⟩, rfl⟩
      · have HE := hide he
        have hb := eqs_no he
        obtain ⟨t, ht⟩ : ∃ t, Hid (t = nm i) := ⟨_, rfl⟩
        rw [← unhide ht] at H1 hb
        clear he
        go_wp2_with fail
        refine (unhide H1).mono ?_
        rintro e w1 ⟨rfl, rfl⟩
        go_wp2
        go_roundg (gk - 1)
        case measure => have := unhide hi; omega
        case rel =>
          refine ⟨i + 1, ?_, by go_num, rfl, ?_⟩
          · have := unhide hi; unfold Hid; omega
          · intro j hj
            by_cases e : j = i
            · subst e; exact unhide HE
            · exact unhide hno j (by omega)
    · have hi0 : i = 67 := by have := unhide hi; omega
      subst hi0
      go_wp2
      go_ret2
      exact ⟨⟨_, _, rfl, ⟨(fun e => by cases e), fun _ => ⟨rfl, unhide hno⟩⟩⟩, rfl⟩

theorem eqs_yes (s : ByteArray) : (s.toList == s.toList) = true := by simp

set_option maxRecDepth 100000 in
set_option maxHeartbeats 2000000 in
theorem namesLaw (op : Int) (s : ByteArray) (w : World) : Calls Try.prog 12 #[.int .i64 op, .string s] w fun e w' => e = .returned (.bool true) ∧ Below w.heap.size w w' := by
  have H1 := hide dName_any
  have H2 := hide name_any
  have H3 := hide dFind_any
  have H4 := hide find_any
  obtain ⟨n, hn⟩ : ∃ n, Hid (∀ w, Calls Try.prog 11 #[.int .i64 op] w fun e w' => e = .returned (.tuple #[.string n, .bool (isOp op)]) ∧ w' = w) ∧ Hid (∀ w, Calls Try.prog 33 #[.int .i64 op] w fun e w' => e = .returned (.tuple #[.string n, .bool (isOp op)]) ∧ w' = w) := ⟨nmI op, fun w => dName_any w op, fun w => name_any w op⟩
  obtain ⟨K1, K2⟩ := hn
  clear H1 H2
  generalize isOp op = b at *
  go_enter Try.func12, Try.ntmps12
  go_wp2_with fail
  refine (unhide K1 _).mono ?_
  rintro e w1 ⟨rfl, rfl⟩
  go_wp2_with fail
  refine (unhide K2 _).mono ?_
  rintro e w2 ⟨rfl, rfl⟩
  go_wp2_with fail
  refine (unhide H3 _ _).mono ?_
  rintro e w3 ⟨⟨a1, b1, rfl, hf1⟩, rfl⟩
  have F1 := hide hf1
  clear hf1
  go_wp2_with fail
  refine (unhide H4 _ _).mono ?_
  rintro e w4 ⟨⟨a2, b2, rfl, hf2⟩, rfl⟩
  obtain ⟨rfl, rfl⟩ := hf2.unique (unhide F1)
  clear hf2 F1
  have q := eqs_yes
  have e4 : ∀ (b : Bool) (w : World), (binOp .eql 4 (.bool b) (.bool b)).run Try.prog w = .ok (.bool true) w := fun b w => by cases b <;> kernel_rfl
  go_wp2_with fail
  go_ret
  exact ⟨rfl, Below.refl _ _⟩
end Go.Proofs.Ytonnkaphomonpaa
