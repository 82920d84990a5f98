/-
  strconv.ParseUint, of two hexadecimal digits.
-/
import Derived.Test.YthiaenkolakjeaaDoorQQuo
import Derived.Lib.ConvBytes
import Derived.Laws.Strings3
import Derived.BigGuard
import Derived.BigCall
namespace Go.Proofs.YthiaenkolakjeaaDoor
open Go.RowKit Go.Shelf
set_option linter.unusedVariables false
set_option linter.unusedSimpArgs false
set_option maxRecDepth 100000 in
theorem low_any (w : World) (m : Nat) (h1 : 97 ≤ m) (h2 : m ≤ 102) : Calls Tryd.prog 24 #[.int .u8 (m : Int)] w fun e w' => e = .returned (.int .u8 (m : Int)) ∧ w' = w := by
  have : m = 97 ∨ m = 98 ∨ m = 99 ∨ m = 100 ∨ m = 101 ∨ m = 102 := by omega
  rcases this with rfl | rfl | rfl | rfl | rfl | rfl
  all_goals
    go_enter Tryd.func24, Tryd.ntmps24
    go_wp2_with fail
    go_ret
    exact ⟨rfl, rfl⟩
theorem hx_nat {d : Nat} (h : d < 16) : (hx d).toNat = if d < 10 then 48 + d else 87 + d := by
  have key : ∀ k : Fin 16, (hx k.val).toNat = if k.val < 10 then 48 + k.val else 87 + k.val := by decide
  exact key ⟨d, h⟩
set_option maxHeartbeats 4000000 in
set_option maxRecDepth 100000 in
theorem ipu_any (t : ByteArray) (w : World) {a b : Nat} (ha : a < 16) (hb : b < 16) (ht : t.data.toList = [hx a, hx b]) :
    Calls Tryd.prog 22 #[.string t, .int .i64 16, .int .i64 8] w fun e w' => e = .returned (.tuple #[.int .u64 ((16 * a + b : Nat) : Int), .nilIface]) ∧ w' = Lib.bytesWorld w 5 t := by
  have hsz : t.size = 2 := by
    have : t.data.toList.length = 2 := by rw [ht]; rfl
    rw [Array.length_toList] at this
    exact this
  have hemp : t.toList.isEmpty = false := by
    rw [← decide_eq_emptyBytes]
    exact decide_eq_false (fun h => by rw [h] at hsz; cases hsz)
  have hcv := Lib.run_convert_string_bytes (P := Tryd.prog) w 9 26 5 t (u := .string) Tryd.underlying9 Tryd.underlying26 Tryd.underlying5
  have hB0 := Lib.bytesWorld_cell w 5 t 0 (by omega)
  have hB1 := Lib.bytesWorld_cell w 5 t 1 (by omega)
  rw [ht] at hB0 hB1
  have e0 : ([hx a, hx b].getD 0 0) = hx a := rfl
  have e1 : ([hx a, hx b].getD 1 0) = hx b := rfl
  rw [e0, hx_nat ha] at hB0
  rw [e1, hx_nat hb] at hB1
  have lw : w.heap.size < (Lib.bytesWorld w 5 t).heap.size := by rw [Lib.bytesWorld_size]; omega
  obtain ⟨W1, hW1⟩ : ∃ W1, W1 = Lib.bytesWorld w 5 t := ⟨_, rfl⟩
  rw [← hW1] at hcv hB0 hB1 lw ⊢
  rw [hsz] at hcv
  clear hW1 e0 e1
  have hmv : IntKind.u64.wrap (IntKind.u64.wrap 256 - 1) = 255 := by
    rw [IntKind.wrap_u64, IntKind.wrap_u64]
    decide
  obtain ⟨A, hA⟩ : ∃ A : Int, Hid (A = (a : Int)) := ⟨_, rfl⟩
  obtain ⟨R, hR⟩ : ∃ R : Int, Hid (R = ((16 * a + b : Nat) : Int)) := ⟨_, rfl⟩
  rw [← unhide hR]
  go_enter Tryd.func22, Tryd.ntmps22
  go_wp2_with fail
  go_loopg [12, 13, 101] 2 (fun gg t12 t13 t101 wi => ∃ (k : Nat), Hid (k + gg = 2) ∧ t12 = .bool false ∧ t101 = .int .i64 (k : Int) ∧ wi = W1 ∧ ((k = 0 ∧ t13 = .int .u64 0) ∨ (k = 1 ∧ t13 = .int .u64 A) ∨ (k = 2 ∧ t13 = .int .u64 R)))
  case atStart => exact ⟨0, by unfold Hid; omega, rfl, rfl, rfl, .inl ⟨rfl, rfl⟩⟩
  case round =>
    obtain ⟨k, hi, rfl, rfl, hX, hk⟩ := hrel
    obtain rfl := hX.symm
    clear hX
    rcases hk with ⟨rfl, rfl⟩ | ⟨rfl, rfl⟩ | ⟨rfl, rfl⟩
    · clear hB1
      have n1 : IntKind.u64.wrap (0 + (a : Int)) = A := by rw [IntKind.wrap_u64, unhide hA]; omega
      have n2 : ¬ A < 0 := by rw [unhide hA]; omega
      have n3 : ¬ 255 < A := by rw [unhide hA]; omega
      by_cases hd : a < 10
      · have hm : (if a < 10 then 48 + a else 87 + a) = 48 + a := if_pos hd
        rw [hm] at hB0
        have g0 : (((48 + a : Nat) : Int) == 95) = false := by simp; omega
        have g1 : (48 : Int) ≤ ((48 + a : Nat) : Int) := by omega
        have g2 : ((48 + a : Nat) : Int) ≤ 57 := by omega
        have g3 : IntKind.u8.wrap (((48 + a : Nat) : Int) - 48) = (a : Int) := by rw [IntKind.wrap_u8]; omega
        have g4 : ¬ (16 : Int) ≤ (a : Int) := by omega
        have g9 : IntKind.u64.wrap (a : Int) = (a : Int) := by rw [IntKind.wrap_u64]; omega
        generalize ((48 + a : Nat) : Int) = m at hB0 g0 g1 g2 g3
        go_wp2_with fail
        go_roundg 1
        case measure => have := unhide hi; omega
        case rel => exact ⟨1, by unfold Hid; omega, rfl, by go_num, rfl, .inr (.inl ⟨rfl, by rw [unhide hA]⟩)⟩
      · have hm : (if a < 10 then 48 + a else 87 + a) = 87 + a := if_neg hd
        rw [hm] at hB0
        have g0 : (((87 + a : Nat) : Int) == 95) = false := by simp; omega
        have g1 : (48 : Int) ≤ ((87 + a : Nat) : Int) := by omega
        have g2 : ¬ ((87 + a : Nat) : Int) ≤ 57 := by omega
        have g5 : (97 : Int) ≤ ((87 + a : Nat) : Int) := by omega
        have g6 : ((87 + a : Nat) : Int) ≤ 122 := by omega
        have g3 : IntKind.u8.wrap (((87 + a : Nat) : Int) - 97) = (a : Int) - 10 := by rw [IntKind.wrap_u8]; omega
        have g7 : IntKind.u8.wrap ((a : Int) - 10 + 10) = (a : Int) := by rw [IntKind.wrap_u8]; omega
        have g4 : ¬ (16 : Int) ≤ (a : Int) := by omega
        have g9 : IntKind.u64.wrap (a : Int) = (a : Int) := by rw [IntKind.wrap_u64]; omega
        have HLW := hide (fun w => low_any w (87 + a) (by omega) (by omega))
        generalize ((87 + a : Nat) : Int) = m at hB0 g0 g1 g2 g3 g5 g6 HLW
        go_wp2_with fail
        refine (unhide HLW _).mono ?_
        rintro e W2 ⟨rfl, hX⟩
        obtain rfl := hX.symm
        clear hX
        go_wp2_with fail
        refine (unhide HLW _).mono ?_
        rintro e W2 ⟨rfl, hX⟩
        obtain rfl := hX.symm
        clear hX
        go_wp2_with fail
        refine (unhide HLW _).mono ?_
        rintro e W2 ⟨rfl, hX⟩
        obtain rfl := hX.symm
        clear hX
        go_wp2_with fail
        go_roundg 1
        case measure => have := unhide hi; omega
        case rel => exact ⟨1, by unfold Hid; omega, rfl, by go_num, rfl, .inr (.inl ⟨rfl, by rw [unhide hA]⟩)⟩
    · clear hB0
      obtain ⟨C, hC⟩ : ∃ C : Int, Hid (C = A * 16) := ⟨_, rfl⟩
      have n0 : ¬ (1152921504606846976 : Int) ≤ A := by rw [unhide hA]; omega
      have n4 : IntKind.u64.wrap (A * 16) = C := by rw [IntKind.wrap_u64, unhide hC, unhide hA]; omega
      have n1 : IntKind.u64.wrap (C + (b : Int)) = R := by rw [IntKind.wrap_u64, unhide hR, unhide hC, unhide hA]; omega
      have n2 : ¬ R < C := by rw [unhide hR, unhide hC, unhide hA]; omega
      have n3 : ¬ 255 < R := by have := unhide hR; omega
      by_cases hd : b < 10
      · have hm : (if b < 10 then 48 + b else 87 + b) = 48 + b := if_pos hd
        rw [hm] at hB1
        have g0 : (((48 + b : Nat) : Int) == 95) = false := by simp; omega
        have g1 : (48 : Int) ≤ ((48 + b : Nat) : Int) := by omega
        have g2 : ((48 + b : Nat) : Int) ≤ 57 := by omega
        have g3 : IntKind.u8.wrap (((48 + b : Nat) : Int) - 48) = (b : Int) := by rw [IntKind.wrap_u8]; omega
        have g4 : ¬ (16 : Int) ≤ (b : Int) := by omega
        have g9 : IntKind.u64.wrap (b : Int) = (b : Int) := by rw [IntKind.wrap_u64]; omega
        generalize ((48 + b : Nat) : Int) = m at hB1 g0 g1 g2 g3
        go_wp2_with fail
        go_roundg 0
        case measure => have := unhide hi; omega
        case rel => exact ⟨2, by unfold Hid; omega, rfl, by go_num, rfl, .inr (.inr ⟨rfl, rfl⟩)⟩
      · have hm : (if b < 10 then 48 + b else 87 + b) = 87 + b := if_neg hd
        rw [hm] at hB1
        have g0 : (((87 + b : Nat) : Int) == 95) = false := by simp; omega
        have g1 : (48 : Int) ≤ ((87 + b : Nat) : Int) := by omega
        have g2 : ¬ ((87 + b : Nat) : Int) ≤ 57 := by omega
        have g5 : (97 : Int) ≤ ((87 + b : Nat) : Int) := by omega
        have g6 : ((87 + b : Nat) : Int) ≤ 122 := by omega
        have g3 : IntKind.u8.wrap (((87 + b : Nat) : Int) - 97) = (b : Int) - 10 := by rw [IntKind.wrap_u8]; omega
        have g7 : IntKind.u8.wrap ((b : Int) - 10 + 10) = (b : Int) := by rw [IntKind.wrap_u8]; omega
        have g4 : ¬ (16 : Int) ≤ (b : Int) := by omega
        have g9 : IntKind.u64.wrap (b : Int) = (b : Int) := by rw [IntKind.wrap_u64]; omega
        have HLW := hide (fun w => low_any w (87 + b) (by omega) (by omega))
        generalize ((87 + b : Nat) : Int) = m at hB1 g0 g1 g2 g3 g5 g6 HLW
        go_wp2_with fail
        refine (unhide HLW _).mono ?_
        rintro e W2 ⟨rfl, hX⟩
        obtain rfl := hX.symm
        clear hX
        go_wp2_with fail
        refine (unhide HLW _).mono ?_
        rintro e W2 ⟨rfl, hX⟩
        obtain rfl := hX.symm
        clear hX
        go_wp2_with fail
        refine (unhide HLW _).mono ?_
        rintro e W2 ⟨rfl, hX⟩
        obtain rfl := hX.symm
        clear hX
        go_wp2_with fail
        go_roundg 0
        case measure => have := unhide hi; omega
        case rel => exact ⟨2, by unfold Hid; omega, rfl, by go_num, rfl, .inr (.inr ⟨rfl, rfl⟩)⟩
    · go_wp2_with fail
      go_ret2
      exact ⟨rfl, rfl⟩
end Go.Proofs.YthiaenkolakjeaaDoor
