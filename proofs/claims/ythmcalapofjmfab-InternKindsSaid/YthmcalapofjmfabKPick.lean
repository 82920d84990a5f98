/-
  Pick, number.
-/
import Derived.Test.YthmcalapofjmfabOS
import Derived.Lib.SlBytesConst
namespace Go.Proofs.Ythmcalapofjmfab
open Go.RowKit Go.Maps
set_option linter.unusedVariables false

/-- What Pick answers. -/
def pick (z : Int) (n : Nat) : Nat := (z % (n : Int)).toNat
theorem pick_lt (z : Int) {n : Nat} (h : 0 < n) : pick z n < n := by
  unfold pick
  have h1 := Int.emod_nonneg z (show (n : Int) ≠ 0 by omega)
  have h2 := Int.emod_lt_of_pos z (show (0 : Int) < (n : Int) by omega)
  omega
theorem ret_int {k : IntKind} {a b : Int} (h : a = b) : Ending.returned (.int k a) = .returned (.int k b) := by rw [h]
theorem pick_val (z : Int) {n : Nat} (h : 0 < n) : ((pick z n : Nat) : Int) = z % (n : Int) := by
  unfold pick
  have h1 := Int.emod_nonneg z (show (n : Int) ≠ 0 by omega)
  omega
theorem tmodN (z : Int) {n : Nat} (h : 0 < n) : (z.tmod (n : Int) = z % (n : Int) ∧ 0 ≤ z.tmod (n : Int)) ∨ (z.tmod (n : Int) = z % (n : Int) - (n : Int) ∧ z.tmod (n : Int) < 0) := by
  have h1 := Int.emod_nonneg z (show (n : Int) ≠ 0 by omega)
  have h2 := Int.emod_lt_of_pos z (show (0 : Int) < (n : Int) by omega)
  have h3 := @Int.tmod_eq_emod z (n : Int)
  by_cases c : 0 ≤ z ∨ (n : Int) ∣ z
  · rw [if_pos c] at h3
    left; omega
  · rw [if_neg c] at h3
    right
    simp only [Int.natAbs_natCast] at h3
    omega
set_option maxRecDepth 100000 in
set_option maxHeartbeats 800000 in
theorem pick4_any (w : World) (z : Int) : Calls Try.prog 9 #[.int .i64 z, .int .i64 4] w fun e w' => e = .returned (.int .i64 ((pick z 4 : Nat) : Int)) ∧ w' = w := by
  have hp := pick_val z (n := 4) (by omega)
  by_cases hn : Int.tmod z 4 < 0
  · have e : ((pick z 4 : Nat) : Int) = Int.tmod z 4 + 4 := by
      rcases tmodN z (n := 4) (by omega) with ⟨h1, h2⟩ | ⟨h1, h2⟩ <;> simp at h1 h2 hp <;> omega
    have hb : -4 ≤ Int.tmod z 4 := by omega
    rw [e]
    clear hp e
    go_enter Try.func9, Try.ntmps9
    go_wp2
    all_goals go_ret
    all_goals first | exact ⟨rfl, rfl⟩ | (refine ⟨ret_int ?_, rfl⟩; omega)
  · have e : ((pick z 4 : Nat) : Int) = Int.tmod z 4 := by
      rcases tmodN z (n := 4) (by omega) with ⟨h1, h2⟩ | ⟨h1, h2⟩ <;> simp at h1 h2 hp <;> omega
    rw [e]
    clear hp e
    have hn' : decide (Int.tmod z 4 < 0) = false := decide_eq_false hn
    go_enter Try.func9, Try.ntmps9
    go_wp2
    all_goals go_ret
    all_goals first | exact ⟨rfl, rfl⟩ | (refine ⟨ret_int ?_, rfl⟩; omega)

theorem one_byte (w : World) (a : Nat) (ha : a < 256) (W : World) (hW : W = w.alloc (.cells #[.int .u8 (a : Int)] 5)) :
    (convert 68 9 (.slice (some ⟨w.heap.size, 0, none⟩) 1 1)).run Try.prog W = .ok (.string ⟨#[UInt8.ofNat a]⟩) W := by
  have h := run_convert_bytes_back (P := Try.prog) W 68 9 5 ⟨w.heap.size, 0, none⟩ 1 [UInt8.ofNat a] Try.underlying68 Try.underlying5 Try.underlying9 (by
    intro j hj
    have hg := heap_alloc_new w (.cells #[.int .u8 (a : Int)] 5)
    rw [Go.WideShapes.add_plain, hW]
    simp only [World.cell?, hg]
    have hj5 : j < 1 := hj
    match j, hj5 with
    | 0, _ => simp; omega)
  exact h

set_option maxRecDepth 100000 in
set_option maxHeartbeats 800000 in
theorem number0 (w : World) : Calls Try.prog 10 #[.int .i64 0] w fun e w' => e = .returned (valS 0) ∧ Below w.heap.size w w' := by
  go_enter Try.func10, Try.ntmps10
  go_wp2
  go_loopg [0, 3] 0 (fun k s t wr => s = .int .i64 0 ∧ t = .string ⟨#[42]⟩ ∧ wr = w)
  case atStart => exact ⟨rfl, rfl, rfl⟩
  case round =>
    obtain ⟨rfl, rfl, rfl⟩ := hrel
    go_wp2
    go_ret
    exact ⟨rfl, Below.refl _ _⟩
set_option maxRecDepth 100000 in
set_option maxHeartbeats 800000 in
theorem number1 (w : World) : Calls Try.prog 10 #[.int .i64 1] w fun e w' => e = .returned (valS 1) ∧ Below w.heap.size w w' := by
  have hcv := one_byte w 49 (by omega)
  go_enter Try.func10, Try.ntmps10
  go_wp2
  go_loopg [0, 3] 1 (fun k s t wr => (k = 1 ∧ s = .int .i64 1 ∧ t = .string ⟨#[42]⟩ ∧ wr = w) ∨ (k = 0 ∧ s = .int .i64 0 ∧ t = valS 1 ∧ Hid (Below w.heap.size w wr)))
  case atStart => exact .inl ⟨rfl, rfl, rfl, rfl⟩
  case round =>
    rcases hrel with ⟨rfl, rfl, rfl, rfl⟩ | ⟨rfl, rfl, rfl, HB⟩
    · go_wp2
      go_roundg 0
      case measure => omega
      case rel => exact .inr ⟨rfl, rfl, rfl, (Below.refl _ _).alloc (Nat.le_refl _) _⟩
    · go_wp2
      go_ret
      exact ⟨rfl, unhide HB⟩
set_option maxRecDepth 100000 in
set_option maxHeartbeats 800000 in
theorem number2 (w : World) : Calls Try.prog 10 #[.int .i64 2] w fun e w' => e = .returned (valS 2) ∧ Below w.heap.size w w' := by
  have hcv := one_byte w 50 (by omega)
  go_enter Try.func10, Try.ntmps10
  go_wp2
  go_loopg [0, 3] 1 (fun k s t wr => (k = 1 ∧ s = .int .i64 2 ∧ t = .string ⟨#[42]⟩ ∧ wr = w) ∨ (k = 0 ∧ s = .int .i64 0 ∧ t = valS 2 ∧ Hid (Below w.heap.size w wr)))
  case atStart => exact .inl ⟨rfl, rfl, rfl, rfl⟩
  case round =>
    rcases hrel with ⟨rfl, rfl, rfl, rfl⟩ | ⟨rfl, rfl, rfl, HB⟩
    · go_wp2
      go_roundg 0
      case measure => omega
      case rel => exact .inr ⟨rfl, rfl, rfl, (Below.refl _ _).alloc (Nat.le_refl _) _⟩
    · go_wp2
      go_ret
      exact ⟨rfl, unhide HB⟩
set_option maxRecDepth 100000 in
set_option maxHeartbeats 800000 in
theorem number3 (w : World) : Calls Try.prog 10 #[.int .i64 3] w fun e w' => e = .returned (valS 3) ∧ Below w.heap.size w w' := by
  have hcv := one_byte w 51 (by omega)
  go_enter Try.func10, Try.ntmps10
  go_wp2
  go_loopg [0, 3] 1 (fun k s t wr => (k = 1 ∧ s = .int .i64 3 ∧ t = .string ⟨#[42]⟩ ∧ wr = w) ∨ (k = 0 ∧ s = .int .i64 0 ∧ t = valS 3 ∧ Hid (Below w.heap.size w wr)))
  case atStart => exact .inl ⟨rfl, rfl, rfl, rfl⟩
  case round =>
    rcases hrel with ⟨rfl, rfl, rfl, rfl⟩ | ⟨rfl, rfl, rfl, HB⟩
    · go_wp2
      go_roundg 0
      case measure => omega
      case rel => exact .inr ⟨rfl, rfl, rfl, (Below.refl _ _).alloc (Nat.le_refl _) _⟩
    · go_wp2
      go_ret
      exact ⟨rfl, unhide HB⟩
theorem number_any (w : World) (k : Nat) (hk : k < 4) : Calls Try.prog 10 #[.int .i64 (k : Int)] w fun e w' => e = .returned (valS k) ∧ Below w.heap.size w w' := by
  match k, hk with
  | 0, _ => exact number0 w
  | 1, _ => exact number1 w
  | 2, _ => exact number2 w
  | 3, _ => exact number3 w
end Go.Proofs.Ythmcalapofjmfab
