/-
  Small things of the book.
-/
import Derived.Test.YtjjfpokmpcpicaaPMk
import Derived.Test.YtjjfpokmpcpicaaPCp
import Derived.Test.YtjjfpokmpcpicaaPMg1
import Derived.Test.YtjjfpokmpcpicaaPKp
namespace Go.Proofs.Ytjjfpokmpcpicaa
open Go.RowKit
set_option linter.unusedVariables false
set_option linter.unusedSimpArgs false
/-- All numbers of a profile have their kinds. -/
def OkF (f : List (List Sp)) : Prop := ∀ l ∈ f, ∀ s ∈ l, okS s
/-- cmp.Or of two. -/
def orI (x y : Int) : Int := if x = 0 then y else x
/-- cmp.Compare. -/
def cpI (a b : Int) : Int := if a < b then -1 else if b < a then 1 else 0
set_option maxRecDepth 100000 in
theorem nan54 (w : World) (x : Int) : Calls Try.prog 62 #[.int .i64 x] w fun e w' => e = .returned (.bool false) ∧ w' = w := by
  have dd : (x != x) = false := by simp
  go_enter Try.func62, Try.ntmps62
  go_wp2_with fail
  go_ret
  exact ⟨rfl, rfl⟩
set_option maxRecDepth 100000 in
set_option maxHeartbeats 800000 in
theorem cmpI_any (w : World) (a b : Int) : Calls Try.prog 48 #[.int .i64 a, .int .i64 b] w fun e w' => e = .returned (.int .i64 (cpI a b)) ∧ w' = w := by
  have HN := hide (fun (x : Int) => nan54 w x)
  have dd : ∀ x : Int, (x != x) = false := fun x => by simp
  unfold cpI
  by_cases h1 : a < b
  · have d1 : decide (a < b) = true := decide_eq_true h1
    rw [if_pos h1]
    clear h1
    go_enter Try.func48, Try.ntmps48
    go_wp2_with (first | (go_at_call 62; refine (unhide HN _).mono ?_; rintro e w' ⟨rfl, rfl⟩))
    go_ret
    exact ⟨rfl, rfl⟩
  · have d1 : decide (a < b) = false := decide_eq_false h1
    rw [if_neg h1]
    by_cases h2 : b < a
    · have d2 : decide (b < a) = true := decide_eq_true h2
      rw [if_pos h2]
      clear h1 h2
      go_enter Try.func48, Try.ntmps48
      go_wp2_with (first | (go_at_call 62; refine (unhide HN _).mono ?_; rintro e w' ⟨rfl, rfl⟩))
      go_ret
      exact ⟨rfl, rfl⟩
    · have d2 : decide (b < a) = false := decide_eq_false h2
      rw [if_neg h2]
      clear h1 h2
      go_enter Try.func48, Try.ntmps48
      go_wp2_with (first | (go_at_call 62; refine (unhide HN _).mono ?_; rintro e w' ⟨rfl, rfl⟩))
      go_ret
      exact ⟨rfl, rfl⟩
set_option maxRecDepth 100000 in
set_option maxHeartbeats 1600000 in
theorem or2_any (w : World) (x y : Int) (b : Nat) (h0 : w.cell? ⟨b, 0, none⟩ = some (.int .i64 x)) (h1 : w.cell? ⟨b, 1, none⟩ = some (.int .i64 y)) (hb : b < w.heap.size) :
    Calls Try.prog 47 #[.slice (some ⟨b, 0, none⟩) 2 2] w fun e w' => e = .returned (.int .i64 (orI x y)) ∧ w' = w := by
  have HH := hide (And.intro h0 h1)
  clear h0 h1
  go_enter Try.func47, Try.ntmps47
  go_wp2_with fail
  go_loopg [8] 2 (fun gg t8 wr => ∃ (i : Nat), Hid (i + gg = 2) ∧ t8 = .int .i64 (i : Int) ∧ Hid (wr = w ∧ (0 < i → x = 0) ∧ (1 < i → y = 0)))
  case atStart => exact ⟨0, by unfold Hid; omega, rfl, rfl, by omega, by omega⟩
  case round =>
    obtain ⟨i, hi, rfl, hW⟩ := hrel
    obtain ⟨e1, z0, z1⟩ := unhide hW
    subst e1
    have HZ := hide (And.intro z0 z1)
    clear z0 z1 hW
    obtain ⟨q0, q1⟩ := unhide HH
    by_cases hlt : i < 2
    · have h2 : i = 0 ∨ i = 1 := by omega
      rcases h2 with rfl | rfl
      · by_cases hx : x = 0
        · have d0 : (x != 0) = false := by simpa using hx
          have HN : Hid (True ∧ (0 < 1 → x = 0) ∧ (1 < 1 → y = 0)) := ⟨trivial, fun _ => hx, by omega⟩
          have HX := hide hx
          clear hx HZ HN
          go_wp2_with fail
          go_roundg (gk - 1)
          case measure => have := unhide hi; omega
          case rel => exact ⟨1, by have := unhide hi; unfold Hid; omega, rfl, rfl, fun _ => unhide HX, by omega⟩
        · have d0 : (x != 0) = true := by simpa using hx
          have HX := hide hx
          clear hx HZ
          go_wp2_with fail
          go_ret
          exact ⟨by unfold orI; rw [if_neg (unhide HX)]; rfl, rfl⟩
      · have HX := hide ((unhide HZ).1 (by omega))
        by_cases hy : y = 0
        · have d0 : (y != 0) = false := by simpa using hy
          have HY := hide hy
          clear hy HZ
          go_wp2_with fail
          go_roundg (gk - 1)
          case measure => have := unhide hi; omega
          case rel => exact ⟨2, by have := unhide hi; unfold Hid; omega, rfl, rfl, fun _ => unhide HX, fun _ => unhide HY⟩
        · have d0 : (y != 0) = true := by simpa using hy
          clear hy HZ
          go_wp2_with fail
          go_ret
          exact ⟨by unfold orI; rw [if_pos (unhide HX)]; rfl, rfl⟩
    · have hiL : i = 2 := by have := unhide hi; omega
      subst hiL
      have HX : Hid (x = 0 ∧ y = 0) := ⟨(unhide HZ).1 (by omega), (unhide HZ).2 (by omega)⟩
      clear HZ
      go_wp2_with fail
      go_ret
      exact ⟨by unfold orI; rw [if_pos (unhide HX).1, (unhide HX).2]; rfl, rfl⟩
end Go.Proofs.Ytjjfpokmpcpicaa
