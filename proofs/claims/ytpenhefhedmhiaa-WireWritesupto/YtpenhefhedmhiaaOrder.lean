/-
  P1.11: words stand in the order of their numbers.
-/
import Derived.Test.YtpenhefhedmhiaaWritten
import Derived.Deep.QuietTactic
import Derived.BigQuiet
namespace Go.Proofs.Ytpenhefhedmhiaa
open Go.RowKit

/-- The k-th byte of a word. -/
def wby (x k : Nat) : Nat := x / 2 ^ (56 - 8 * k) % 256
/-- Above the k-th byte x and y are one. -/
def PEq (x y k : Nat) : Prop := x / 2 ^ (64 - 8 * k) = y / 2 ^ (64 - 8 * k)

theorem pow_split (k : Nat) (hk : k < 8) : (2 : Nat) ^ (64 - 8 * k) = 2 ^ (56 - 8 * k) * 256 := by
  rw [show 64 - 8 * k = (56 - 8 * k) + 8 from by omega, Nat.pow_add]
theorem PEq.start (x y : Nat) (hx : x < 2 ^ 64) (hy : y < 2 ^ 64) : PEq x y 0 := by
  unfold PEq; rw [Nat.div_eq_of_lt (by simpa using hx), Nat.div_eq_of_lt (by simpa using hy)]
theorem PEq.next {x y k : Nat} (h : PEq x y k) (hk : k < 8) (e : wby x k = wby y k) : PEq x y (k + 1) := by
  unfold PEq wby at *
  rw [pow_split k hk, ← Nat.div_div_eq_div_mul, ← Nat.div_div_eq_div_mul] at h
  rw [show 64 - 8 * (k + 1) = 56 - 8 * k from by omega]
  omega
theorem PEq.done {x y : Nat} (h : PEq x y 8) : x = y := by simpa [PEq] using h
theorem lt_of_div_lt {x y n : Nat} (h : x / n < y / n) : x < y := by
  rcases Nat.lt_or_ge x y with h' | h'
  · exact h'
  · have := Nat.div_le_div_right (c := n) h'; omega
theorem PEq.ne {x y k : Nat} (h : PEq x y k) (hk : k < 8) (e : wby x k ≠ wby y k) : (wby x k < wby y k ↔ x < y) ∧ x ≠ y := by
  unfold PEq wby at *
  rw [pow_split k hk, ← Nat.div_div_eq_div_mul, ← Nat.div_div_eq_div_mul] at h
  generalize hX : x / 2 ^ (56 - 8 * k) = X at *
  generalize hY : y / 2 ^ (56 - 8 * k) = Y at *
  rcases Nat.lt_or_ge X Y with h' | h'
  · have := lt_of_div_lt (x := x) (y := y) (n := 2 ^ (56 - 8 * k)) (by omega)
    omega
  · have := lt_of_div_lt (x := y) (y := x) (n := 2 ^ (56 - 8 * k)) (by omega)
    omega

/-- The bytes of a row that is owned, cell by cell. -/
theorem own_cells {w : World} {base : Nat} {v : Value} {bs : List Int} (h : w.ownsRow base 5 1 v bs.length (bs.map By)) (hn : 0 < bs.length) :
    ∃ g cap, v = .slice (some ⟨g, 0, none⟩) bs.length cap ∧ base ≤ g ∧ g < w.heap.size ∧ ∀ i, i < bs.length → w.cell? ⟨g, i, none⟩ = some (.int .u8 (bs.getD i 0)) := by
  obtain ⟨g, cap, rfl, h1, h2⟩ := h.form hn
  refine ⟨g, cap, rfl, h1, h2, fun i hi => ?_⟩
  have := @World.ownsRow.cells w base 5 1 _ bs.length (bs.map By) h g rfl i (By (bs.getD i 0)) (by simp [List.getD, hi])
  rw [addr_add0] at this
  simpa [By] using this

theorem pform3 (x : Nat) (s : ByteArray) : pform 3 x s = wpre x 8 := rfl
theorem wpre_get (x i : Nat) (hi : i < 8) : (wpre x 8).getD i 0 = ((wby x i : Nat) : Int) := by
  simp [wpre, wby, List.getD, hi]

/-- A word written by a new writer. -/
theorem writtenWord (x : Nat) (w : World) (hx : x < 2 ^ 64) :
    Calls Try.prog 9 #[.agg #[.int .i64 0, .int .i64 3, .int .u64 x, .string ByteArray.empty]] w fun e w' => ∃ g cap, e = .returned (.tuple #[.slice (some ⟨g, 0, none⟩) 8 cap, .bool true]) ∧
      g < w'.heap.size ∧ (∀ i, i < 8 → w'.cell? ⟨g, i, none⟩ = some (.int .u8 ((wby x i : Nat) : Int))) ∧ Below w.heap.size w w' := by
  refine (written_any 0 3 x ByteArray.empty w (by decide) (by decide) hx).mono ?_
  rintro e w' ⟨v, rfl, ho, hB⟩
  rw [pform3] at ho
  obtain ⟨g, cap, rfl, _, h2, h3⟩ := own_cells ho (by rw [wpre_length]; omega)
  rw [wpre_length] at h3 ⊢
  exact ⟨g, cap, rfl, h2, fun i hi => by rw [h3 i hi, wpre_get x i hi], hB⟩

theorem drewN_drewN (w : World) (a b : Nat) : (w.drewN a).drewN b = w.drewN (a + b) := by
  simp [World.drewN, Nat.add_assoc]

set_option maxRecDepth 100000 in
set_option maxHeartbeats 800000 in
theorem wireOrder_walk (x y : Nat) (w : World) (hx : x < 2 ^ 64) (hy : y < 2 ^ 64) :
    Calls Try.prog 5 #[.int .u64 x, .int .u64 y] w fun e w' => e = .returned (.bool true) ∧ Below w.heap.size w w' := by
  have hS := hide (PEq.start x y hx hy)
  go_enter Try.func5, Try.ntmps5
  go_wp2_with fail
  refine (writtenWord x _ hx).mono ?_
  rintro e w1 ⟨ga, ca, rfl, hga, hca, hB1⟩
  have HCA := hide hca
  have HB1 := hide hB1
  clear hca hB1
  go_wp2_with fail
  refine (writtenWord y _ hy).mono ?_
  rintro e w2 ⟨gb, cb, rfl, hgb, hcb, hB2⟩
  have HCB := hide hcb
  have HCA2 : Hid (∀ i, i < 8 → w2.cell? ⟨ga, i, none⟩ = some (.int .u8 ((wby x i : Nat) : Int))) := fun i hi => (hB2.cell (p := ⟨ga, i, none⟩) hga).trans (unhide HCA i hi)
  have HB : Hid (Below w.heap.size w w2) := (unhide HB1).trans (hB2.mono (unhide HB1).size)
  clear hcb hB2 HB1 HCA hga hgb
  go_wp2
  go_loopg [9] 8 (fun k s wr => ∃ j : Nat, Hid (j + k = 8) ∧ s = .int .i64 j ∧ PEq x y j ∧ ∃ n, wr = w2.drewN n)
  case atStart => exact ⟨0, rfl, rfl, unhide hS, 0, rfl⟩
  case round =>
    obtain ⟨j, hj, rfl, hP, n0, hn0⟩ := hrel
    have HN0 := hide hn0
    by_cases hlt : j < 8
    · have c1 : wr.cell? ⟨ga, j, none⟩ = some (.int .u8 ((wby x j : Nat) : Int)) := by rw [hn0]; exact unhide HCA2 j hlt
      have c2 : wr.cell? ⟨gb, j, none⟩ = some (.int .u8 ((wby y j : Nat) : Int)) := by rw [hn0]; exact unhide HCB j hlt
      have i0 : (0 : Int) ≤ (j : Int) := by omega
      have i1 : (j : Int) < 8 := by omega
      clear hn0
      by_cases he : wby x j = wby y j
      · have hN := hide (hP.next hlt he)
        have hq : (((wby x j : Nat) : Int) != ((wby y j : Nat) : Int)) = false := by rw [he]; simp
        clear hP he
        go_wp2
        go_quiet (fail)
        go_wp2
        go_roundg (gk - 1)
        case measure => have := unhide hj; omega
        case rel => exact ⟨j + 1, by have := unhide hj; unfold Hid; omega, by go_num, unhide hN, n0 + nq, by rw [unhide HN0, drewN_drewN]⟩
      · obtain ⟨hL, hne⟩ := hP.ne hlt he
        have hq : (((wby x j : Nat) : Int) != ((wby y j : Nat) : Int)) = true := by rw [bne_iff_ne]; omega
        have hq3 : ((x : Int) != (y : Int)) = true := by rw [bne_iff_ne]; omega
        have hbe : ∀ (b c : Bool) (w : World), (binOp .eql 4 (.bool b) (.bool c)).run Try.prog w = .ok (.bool (b == c)) w := fun b c w => by cases b <;> cases c <;> kernel_rfl
        by_cases hxy : x < y
        · have q1 : wby x j < wby y j := by omega
          have q2 : (x : Int) < (y : Int) := by omega
          have q3 : ((wby x j : Nat) : Int) < ((wby y j : Nat) : Int) := by omega
          clear hP he hL hne
          go_wp2
          go_quiet (fail)
          go_wp2
          go_quiet (fail)
          go_wp2
          go_ret
          refine ⟨rfl, ?_⟩
          rw [unhide HN0, drewN_drewN, drewN_drewN]
          exact below_drewN (unhide HB) _
        · have q1 : decide (wby x j < wby y j) = false := by rw [decide_eq_false_iff_not]; omega
          have q2 : decide (x < y) = false := by rw [decide_eq_false_iff_not]; omega
          have q3 : ¬ wby x j < wby y j := by omega
          clear hP he hL hne
          go_wp2
          go_quiet (fail)
          go_wp2
          go_quiet (fail)
          go_wp2
          go_ret
          refine ⟨rfl, ?_⟩
          rw [unhide HN0, drewN_drewN, drewN_drewN]
          exact below_drewN (unhide HB) _
    · obtain rfl : j = 8 := by have := unhide hj; omega
      have hq : ((x : Int) == (y : Int)) = true := by rw [hP.done]; simp
      clear hP hn0
      go_wp2
      go_ret
      refine ⟨rfl, ?_⟩
      rw [unhide HN0]
      exact below_drewN (unhide HB) _
end Go.Proofs.Ytpenhefhedmhiaa
