/-
  strconv.ParseUint, of any two bytes.
-/
import Derived.Test.YthiaenkolakjeaaDoorQShl
import Derived.Test.YthiaenkolakjeaaDoorQUd
namespace Go.Proofs.YthiaenkolakjeaaDoor
open Go.RowKit Go.Shelf
set_option linter.unusedVariables false
set_option linter.unusedSimpArgs false
set_option maxRecDepth 100000 in
theorem dv_ok (m : Nat) (h : m < 256) (hk : dv m ≤ 15) : m = 48 + dv m ∧ dv m < 10 ∨ (65 ≤ m ∧ m ≤ 102 ∧ lo m = 87 + dv m ∧ 10 ≤ dv m ∧ m ≠ 95) := by
  have key : ∀ k : Fin 256, dv k.val ≤ 15 → k.val = 48 + dv k.val ∧ dv k.val < 10 ∨ (65 ≤ k.val ∧ k.val ≤ 102 ∧ lo k.val = 87 + dv k.val ∧ 10 ≤ dv k.val ∧ k.val ≠ 95) := by decide +kernel
  exact key ⟨m, h⟩ hk
set_option maxRecDepth 100000 in
theorem dv_no (m : Nat) (h : m < 256) (hk : ¬ dv m ≤ 15) : (m < 48 ∧ lo m < 97) ∨ (57 < m ∧ lo m < 97 ∧ m ≠ 95) ∨ (57 < m ∧ 122 < lo m ∧ m ≠ 95) ∨ (57 < m ∧ 103 ≤ lo m ∧ lo m ≤ 122 ∧ m ≠ 95) ∨ m = 95 := by
  have key : ∀ k : Fin 256, ¬ dv k.val ≤ 15 → (k.val < 48 ∧ lo k.val < 97) ∨ (57 < k.val ∧ lo k.val < 97 ∧ k.val ≠ 95) ∨ (57 < k.val ∧ 122 < lo k.val ∧ k.val ≠ 95) ∨ (57 < k.val ∧ 103 ≤ lo k.val ∧ lo k.val ≤ 122 ∧ k.val ≠ 95) ∨ k.val = 95 := by decide +kernel
  exact key ⟨m, h⟩ hk
/-- What ParseUint answers. -/
def IpR (a b : Nat) (e : Ending) : Prop :=
  (a ≤ 15 ∧ b ≤ 15 ∧ e = .returned (.tuple #[.int .u64 ((16 * a + b : Nat) : Int), .nilIface])) ∨ (¬ (a ≤ 15 ∧ b ≤ 15) ∧ e = .returned (.tuple #[.int .u64 0, .iface 50 (.int .i64 2)]))
set_option maxHeartbeats 8000000 in
set_option maxRecDepth 100000 in
theorem ipu2_any (t : ByteArray) (w : World) {x y : UInt8} (ht : t.data.toList = [x, y]) :
    Calls Tryd.prog 22 #[.string t, .int .i64 16, .int .i64 8] w fun e w' => IpR (dv x.toNat) (dv y.toNat) e ∧ w' = Lib.bytesWorld w 5 t := by
  have hsz : t.size = 2 := by
    have : t.data.toList.length = 2 := by rw [ht]; rfl
    rw [Array.length_toList] at this
    exact this
  have hemp : t.toList.isEmpty = false := by
    rw [← decide_eq_emptyBytes]
    exact decide_eq_false (fun h => by rw [h] at hsz; cases hsz)
  have hcv := Lib.run_convert_string_bytes (P := Tryd.prog) w 9 26 5 t (u := .string) Tryd.underlying9 Tryd.underlying26 Tryd.underlying5
  have hB0 := Lib.bytesWorld_cell w 5 t 0 (by omega)
  have hB1 := Lib.bytesWorld_cell w 5 t 1 (by omega)
  rw [ht] at hB0 hB1
  have e0 : ([x, y].getD 0 0) = x := rfl
  have e1 : ([x, y].getD 1 0) = y := rfl
  rw [e0] at hB0
  rw [e1] at hB1
  have lw : w.heap.size < (Lib.bytesWorld w 5 t).heap.size := by rw [Lib.bytesWorld_size]; omega
  obtain ⟨W1, hW1⟩ : ∃ W1, W1 = Lib.bytesWorld w 5 t := ⟨_, rfl⟩
  rw [← hW1] at hcv hB0 hB1 lw ⊢
  rw [hsz] at hcv
  obtain ⟨mx, hx0⟩ : ∃ m, x.toNat = m := ⟨_, rfl⟩
  obtain ⟨my, hy0⟩ : ∃ m, y.toNat = m := ⟨_, rfl⟩
  have hmx := x.toNat_lt
  have hmy := y.toNat_lt
  rw [hx0] at hB0 hmx ⊢
  rw [hy0] at hB1 hmy ⊢
  have hmx : mx < 256 := hmx
  have hmy : my < 256 := hmy
  obtain ⟨a, ha⟩ : ∃ a, Hid (dv mx = a) := ⟨_, rfl⟩
  obtain ⟨b, hb⟩ : ∃ b, Hid (dv my = b) := ⟨_, rfl⟩
  rw [unhide ha, unhide hb]
  clear hW1 e0 e1 hx0 hy0 ht
  have hmv : IntKind.u64.wrap (IntKind.u64.wrap 256 - 1) = 255 := by
    rw [IntKind.wrap_u64, IntKind.wrap_u64]
    decide
  obtain ⟨A, hA⟩ : ∃ A : Int, Hid (A = (a : Int)) := ⟨_, rfl⟩
  obtain ⟨R, hR⟩ : ∃ R : Int, Hid (R = ((16 * a + b : Nat) : Int)) := ⟨_, rfl⟩
  go_enter Tryd.func22, Tryd.ntmps22
  go_wp2_with fail
  go_loopg [12, 13, 101] 2 (fun gg t12 t13 t101 wi => ∃ (k : Nat), Hid (k + gg = 2) ∧ t12 = .bool false ∧ t101 = .int .i64 (k : Int) ∧ wi = W1 ∧ ((k = 0 ∧ t13 = .int .u64 0) ∨ (k = 1 ∧ t13 = .int .u64 A ∧ a ≤ 15) ∨ (k = 2 ∧ t13 = .int .u64 R ∧ a ≤ 15 ∧ b ≤ 15)))
  case atStart => exact ⟨0, by unfold Hid; omega, rfl, rfl, rfl, .inl ⟨rfl, rfl⟩⟩
  case round =>
    obtain ⟨k, hi, rfl, rfl, hX, hk⟩ := hrel
    obtain rfl := hX.symm
    clear hX
    rcases hk with ⟨rfl, rfl⟩ | ⟨rfl, rfl, hok1⟩ | ⟨rfl, rfl, hok1, hok2⟩
    · clear hB1
      have n2 : ¬ A < 0 := by rw [unhide hA]; omega
      by_cases hok : a ≤ 15
      · have n1 : IntKind.u64.wrap (0 + (a : Int)) = A := by rw [IntKind.wrap_u64, unhide hA]; omega
        have n3 : ¬ 255 < A := by rw [unhide hA]; omega
        have g4 : ¬ (16 : Int) ≤ (a : Int) := by omega
        have g9 : IntKind.u64.wrap (a : Int) = (a : Int) := by rw [IntKind.wrap_u64]; omega
        rcases dv_ok mx hmx (by rw [unhide ha]; exact hok) with hd | hd
        · rw [unhide ha] at hd
          have g0 : ((mx : Int) == 95) = false := by simp; omega
          have g1 : (48 : Int) ≤ (mx : Int) := by omega
          have g2 : (mx : Int) ≤ 57 := by omega
          have g3 : IntKind.u8.wrap ((mx : Int) - 48) = (a : Int) := by rw [IntKind.wrap_u8]; omega
          clear hd
          go_wp2_with fail
          go_roundg 1
          case measure => have := unhide hi; omega
          case rel => exact ⟨1, by unfold Hid; omega, rfl, by go_num, rfl, .inr (.inl ⟨rfl, by rw [unhide hA], hok⟩)⟩
        · rw [unhide ha] at hd
          obtain ⟨hd1, hd2, hd3⟩ := hd
          have g0 : ((mx : Int) == 95) = false := by simp; omega
          have g1 : (48 : Int) ≤ (mx : Int) := by omega
          have g2 : ¬ (mx : Int) ≤ 57 := by omega
          have HLW := hide (fun w => low2_any w mx hmx)
          obtain ⟨l, hl⟩ : ∃ l : Nat, l = lo mx := ⟨_, rfl⟩
          rw [← hl] at HLW hd3
          have g5 : (97 : Int) ≤ (l : Int) := by omega
          have g6 : (l : Int) ≤ 122 := by omega
          have g3 : IntKind.u8.wrap ((l : Int) - 97) = (a : Int) - 10 := by rw [IntKind.wrap_u8]; omega
          have g7 : IntKind.u8.wrap ((a : Int) - 10 + 10) = (a : Int) := by rw [IntKind.wrap_u8]; omega
          clear hd1 hd2 hd3 hl
          go_wp2_with fail
          refine (unhide HLW _).mono ?_
          rintro e W2 ⟨rfl, hX⟩
          obtain rfl := hX.symm
          clear hX
          go_wp2_with fail
          refine (unhide HLW _).mono ?_
          rintro e W2 ⟨rfl, hX⟩
          obtain rfl := hX.symm
          clear hX
          go_wp2_with fail
          refine (unhide HLW _).mono ?_
          rintro e W2 ⟨rfl, hX⟩
          obtain rfl := hX.symm
          clear hX
          go_wp2_with fail
          go_roundg 1
          case measure => have := unhide hi; omega
          case rel => exact ⟨1, by unfold Hid; omega, rfl, by go_num, rfl, .inr (.inl ⟨rfl, by rw [unhide hA], hok⟩)⟩
      · have HN : Hid (¬ (a ≤ 15 ∧ b ≤ 15)) := fun h => hok h.1
        have HLW := hide (fun w => low2_any w mx hmx)
        obtain ⟨l, hl⟩ : ∃ l : Nat, l = lo mx := ⟨_, rfl⟩
        have hno := dv_no mx hmx (by rw [unhide ha]; exact hok)
        rw [← hl] at HLW hno
        rcases hno with ⟨z1, z2⟩ | ⟨z1, z2, z9⟩ | ⟨z1, z2, z9⟩ | ⟨z1, z2, z3, z9⟩ | z5
        · have g0 : ((mx : Int) == 95) = false := by simp; omega
          have g1 : ¬ (48 : Int) ≤ (mx : Int) := by omega
          have g5 : ¬ (97 : Int) ≤ (l : Int) := by omega
          clear hl hok z1 z2
          go_wp2_with fail
          refine (unhide HLW _).mono ?_
          rintro e W2 ⟨rfl, hX⟩
          obtain rfl := hX.symm
          clear hX
          go_wp2_with fail
          go_ret2
          exact ⟨.inr ⟨unhide HN, rfl⟩, rfl⟩
        · have g0 : ((mx : Int) == 95) = false := by simp; omega
          have g1 : (48 : Int) ≤ (mx : Int) := by omega
          have g2 : ¬ (mx : Int) ≤ 57 := by omega
          have g5 : ¬ (97 : Int) ≤ (l : Int) := by omega
          clear hl hok z1 z2
          go_wp2_with fail
          refine (unhide HLW _).mono ?_
          rintro e W2 ⟨rfl, hX⟩
          obtain rfl := hX.symm
          clear hX
          go_wp2_with fail
          go_ret2
          exact ⟨.inr ⟨unhide HN, rfl⟩, rfl⟩
        · have g0 : ((mx : Int) == 95) = false := by simp; omega
          have g1 : (48 : Int) ≤ (mx : Int) := by omega
          have g2 : ¬ (mx : Int) ≤ 57 := by omega
          have g5 : (97 : Int) ≤ (l : Int) := by omega
          have g6 : ¬ (l : Int) ≤ 122 := by omega
          clear hl hok z1 z2
          go_wp2_with fail
          refine (unhide HLW _).mono ?_
          rintro e W2 ⟨rfl, hX⟩
          obtain rfl := hX.symm
          clear hX
          go_wp2_with fail
          refine (unhide HLW _).mono ?_
          rintro e W2 ⟨rfl, hX⟩
          obtain rfl := hX.symm
          clear hX
          go_wp2_with fail
          go_ret2
          exact ⟨.inr ⟨unhide HN, rfl⟩, rfl⟩
        · obtain ⟨D, hD⟩ : ∃ D : Nat, D + 87 = l := ⟨l - 87, by omega⟩
          have g0 : ((mx : Int) == 95) = false := by simp; omega
          have g1 : (48 : Int) ≤ (mx : Int) := by omega
          have g2 : ¬ (mx : Int) ≤ 57 := by omega
          have g5 : (97 : Int) ≤ (l : Int) := by omega
          have g6 : (l : Int) ≤ 122 := by omega
          have g3 : IntKind.u8.wrap ((l : Int) - 97) = (D : Int) - 10 := by rw [IntKind.wrap_u8]; omega
          have g7 : IntKind.u8.wrap ((D : Int) - 10 + 10) = (D : Int) := by rw [IntKind.wrap_u8]; omega
          have g4 : (16 : Int) ≤ (D : Int) := by omega
          have g8 : D ≤ 35 := by omega
          have g9 : IntKind.u8.wrap (D : Int) = (D : Int) := by rw [IntKind.wrap_u8]; omega
          clear hl hok z1 z2 z3 z9 hD
          go_wp2_with fail
          refine (unhide HLW _).mono ?_
          rintro e W2 ⟨rfl, hX⟩
          obtain rfl := hX.symm
          clear hX
          go_wp2_with fail
          refine (unhide HLW _).mono ?_
          rintro e W2 ⟨rfl, hX⟩
          obtain rfl := hX.symm
          clear hX
          go_wp2_with fail
          refine (unhide HLW _).mono ?_
          rintro e W2 ⟨rfl, hX⟩
          obtain rfl := hX.symm
          clear hX
          go_wp2_with fail
          go_ret2
          exact ⟨.inr ⟨unhide HN, rfl⟩, rfl⟩
        · clear HLW hl hok
          subst z5
          have HLW : Hid (∀ w, Calls Tryd.prog 24 #[.int .u8 95] w fun e w' => e = .returned (.int .u8 127) ∧ w' = w) := fun w => low2_any w 95 (by omega)
          go_wp2_with fail
          refine (unhide HLW _).mono ?_
          rintro e W2 ⟨rfl, hX⟩
          obtain rfl := hX.symm
          clear hX
          go_wp2_with fail
          refine (unhide HLW _).mono ?_
          rintro e W2 ⟨rfl, hX⟩
          obtain rfl := hX.symm
          clear hX
          go_wp2_with fail
          go_ret2
          exact ⟨.inr ⟨unhide HN, rfl⟩, rfl⟩
    · clear hB0
      obtain ⟨C, hC⟩ : ∃ C : Int, Hid (C = A * 16) := ⟨_, rfl⟩
      have n0 : ¬ (1152921504606846976 : Int) ≤ A := by rw [unhide hA]; omega
      have n4 : IntKind.u64.wrap (A * 16) = C := by rw [IntKind.wrap_u64, unhide hC, unhide hA]; omega
      by_cases hok : b ≤ 15
      · have n1 : IntKind.u64.wrap (C + (b : Int)) = R := by rw [IntKind.wrap_u64, unhide hR, unhide hC, unhide hA]; omega
        have n2 : ¬ R < C := by rw [unhide hR, unhide hC, unhide hA]; omega
        have n3 : ¬ 255 < R := by have := unhide hR; omega
        have g4 : ¬ (16 : Int) ≤ (b : Int) := by omega
        have g9 : IntKind.u64.wrap (b : Int) = (b : Int) := by rw [IntKind.wrap_u64]; omega
        rcases dv_ok my hmy (by rw [unhide hb]; exact hok) with hd | hd
        · rw [unhide hb] at hd
          have g0 : ((my : Int) == 95) = false := by simp; omega
          have g1 : (48 : Int) ≤ (my : Int) := by omega
          have g2 : (my : Int) ≤ 57 := by omega
          have g3 : IntKind.u8.wrap ((my : Int) - 48) = (b : Int) := by rw [IntKind.wrap_u8]; omega
          clear hd
          go_wp2_with fail
          go_roundg 0
          case measure => have := unhide hi; omega
          case rel => exact ⟨2, by unfold Hid; omega, rfl, by go_num, rfl, .inr (.inr ⟨rfl, rfl, hok1, hok⟩)⟩
        · rw [unhide hb] at hd
          obtain ⟨hd1, hd2, hd3⟩ := hd
          have g0 : ((my : Int) == 95) = false := by simp; omega
          have g1 : (48 : Int) ≤ (my : Int) := by omega
          have g2 : ¬ (my : Int) ≤ 57 := by omega
          have HLW := hide (fun w => low2_any w my hmy)
          obtain ⟨l, hl⟩ : ∃ l : Nat, l = lo my := ⟨_, rfl⟩
          rw [← hl] at HLW hd3
          have g5 : (97 : Int) ≤ (l : Int) := by omega
          have g6 : (l : Int) ≤ 122 := by omega
          have g3 : IntKind.u8.wrap ((l : Int) - 97) = (b : Int) - 10 := by rw [IntKind.wrap_u8]; omega
          have g7 : IntKind.u8.wrap ((b : Int) - 10 + 10) = (b : Int) := by rw [IntKind.wrap_u8]; omega
          clear hd1 hd2 hd3 hl
          go_wp2_with fail
          refine (unhide HLW _).mono ?_
          rintro e W2 ⟨rfl, hX⟩
          obtain rfl := hX.symm
          clear hX
          go_wp2_with fail
          refine (unhide HLW _).mono ?_
          rintro e W2 ⟨rfl, hX⟩
          obtain rfl := hX.symm
          clear hX
          go_wp2_with fail
          refine (unhide HLW _).mono ?_
          rintro e W2 ⟨rfl, hX⟩
          obtain rfl := hX.symm
          clear hX
          go_wp2_with fail
          go_roundg 0
          case measure => have := unhide hi; omega
          case rel => exact ⟨2, by unfold Hid; omega, rfl, by go_num, rfl, .inr (.inr ⟨rfl, rfl, hok1, hok⟩)⟩
      · have HN : Hid (¬ (a ≤ 15 ∧ b ≤ 15)) := fun h => hok h.2
        have HLW := hide (fun w => low2_any w my hmy)
        obtain ⟨l, hl⟩ : ∃ l : Nat, l = lo my := ⟨_, rfl⟩
        have hno := dv_no my hmy (by rw [unhide hb]; exact hok)
        rw [← hl] at HLW hno
        rcases hno with ⟨z1, z2⟩ | ⟨z1, z2, z9⟩ | ⟨z1, z2, z9⟩ | ⟨z1, z2, z3, z9⟩ | z5
        · have g0 : ((my : Int) == 95) = false := by simp; omega
          have g1 : ¬ (48 : Int) ≤ (my : Int) := by omega
          have g5 : ¬ (97 : Int) ≤ (l : Int) := by omega
          clear hl hok z1 z2
          go_wp2_with fail
          refine (unhide HLW _).mono ?_
          rintro e W2 ⟨rfl, hX⟩
          obtain rfl := hX.symm
          clear hX
          go_wp2_with fail
          go_ret2
          exact ⟨.inr ⟨unhide HN, rfl⟩, rfl⟩
        · have g0 : ((my : Int) == 95) = false := by simp; omega
          have g1 : (48 : Int) ≤ (my : Int) := by omega
          have g2 : ¬ (my : Int) ≤ 57 := by omega
          have g5 : ¬ (97 : Int) ≤ (l : Int) := by omega
          clear hl hok z1 z2
          go_wp2_with fail
          refine (unhide HLW _).mono ?_
          rintro e W2 ⟨rfl, hX⟩
          obtain rfl := hX.symm
          clear hX
          go_wp2_with fail
          go_ret2
          exact ⟨.inr ⟨unhide HN, rfl⟩, rfl⟩
        · have g0 : ((my : Int) == 95) = false := by simp; omega
          have g1 : (48 : Int) ≤ (my : Int) := by omega
          have g2 : ¬ (my : Int) ≤ 57 := by omega
          have g5 : (97 : Int) ≤ (l : Int) := by omega
          have g6 : ¬ (l : Int) ≤ 122 := by omega
          clear hl hok z1 z2
          go_wp2_with fail
          refine (unhide HLW _).mono ?_
          rintro e W2 ⟨rfl, hX⟩
          obtain rfl := hX.symm
          clear hX
          go_wp2_with fail
          refine (unhide HLW _).mono ?_
          rintro e W2 ⟨rfl, hX⟩
          obtain rfl := hX.symm
          clear hX
          go_wp2_with fail
          go_ret2
          exact ⟨.inr ⟨unhide HN, rfl⟩, rfl⟩
        · obtain ⟨D, hD⟩ : ∃ D : Nat, D + 87 = l := ⟨l - 87, by omega⟩
          have g0 : ((my : Int) == 95) = false := by simp; omega
          have g1 : (48 : Int) ≤ (my : Int) := by omega
          have g2 : ¬ (my : Int) ≤ 57 := by omega
          have g5 : (97 : Int) ≤ (l : Int) := by omega
          have g6 : (l : Int) ≤ 122 := by omega
          have g3 : IntKind.u8.wrap ((l : Int) - 97) = (D : Int) - 10 := by rw [IntKind.wrap_u8]; omega
          have g7 : IntKind.u8.wrap ((D : Int) - 10 + 10) = (D : Int) := by rw [IntKind.wrap_u8]; omega
          have g4 : (16 : Int) ≤ (D : Int) := by omega
          have g8 : D ≤ 35 := by omega
          have g9 : IntKind.u8.wrap (D : Int) = (D : Int) := by rw [IntKind.wrap_u8]; omega
          clear hl hok z1 z2 z3 z9 hD
          go_wp2_with fail
          refine (unhide HLW _).mono ?_
          rintro e W2 ⟨rfl, hX⟩
          obtain rfl := hX.symm
          clear hX
          go_wp2_with fail
          refine (unhide HLW _).mono ?_
          rintro e W2 ⟨rfl, hX⟩
          obtain rfl := hX.symm
          clear hX
          go_wp2_with fail
          refine (unhide HLW _).mono ?_
          rintro e W2 ⟨rfl, hX⟩
          obtain rfl := hX.symm
          clear hX
          go_wp2_with fail
          go_ret2
          exact ⟨.inr ⟨unhide HN, rfl⟩, rfl⟩
        · clear HLW hl hok
          subst z5
          have HLW : Hid (∀ w, Calls Tryd.prog 24 #[.int .u8 95] w fun e w' => e = .returned (.int .u8 127) ∧ w' = w) := fun w => low2_any w 95 (by omega)
          go_wp2_with fail
          refine (unhide HLW _).mono ?_
          rintro e W2 ⟨rfl, hX⟩
          obtain rfl := hX.symm
          clear hX
          go_wp2_with fail
          refine (unhide HLW _).mono ?_
          rintro e W2 ⟨rfl, hX⟩
          obtain rfl := hX.symm
          clear hX
          go_wp2_with fail
          go_ret2
          exact ⟨.inr ⟨unhide HN, rfl⟩, rfl⟩
    · have HF : Hid (a ≤ 15 ∧ b ≤ 15) := ⟨hok1, hok2⟩
      clear hok1 hok2
      go_wp2_with fail
      go_ret2
      exact ⟨.inl ⟨(unhide HF).1, (unhide HF).2, by rw [← unhide hR]; rfl⟩, rfl⟩
end Go.Proofs.YthiaenkolakjeaaDoor
