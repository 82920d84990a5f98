/-
  A whole number's text: the program's and the document's.
-/
import Derived.Test.YtpceokegcjombaaDoorDShelf
import Derived.Lib.ItoaLen
import Derived.Test.YtpceokegcjombaaDoorPRow
namespace Go.Proofs.YtpceokegcjombaaDoor
open Go.RowKit

set_option maxHeartbeats 1000000 in
set_option maxRecDepth 100000 in
theorem int_any (n : Int) (h0 : -9223372036854775808 ≤ n) (h1 : n ≤ 9223372036854775807) (w : World) (hT : T10 w) :
    Calls Tryd.prog 20 #[.int .i64 n] w fun e w' => e = .returned (.string ⟨(Lib.itoa n).toArray⟩) ∧ Below w.heap.size w w' := by
  have hF := hide (fmt10 n h0 h1 w hT)
  generalize Lib.itoa n = L at *
  clear h0 h1 hT
  go_enter Tryd.func20, Tryd.ntmps20
  go_wp2_with fail
  refine (unhide hF).mono ?_
  rintro e w1 ⟨rfl, hb⟩
  have HB := hide hb
  clear hb
  go_wp2
  go_ret
  exact ⟨rfl, unhide HB⟩

/-- A digit. -/
def dgt (r : Nat) : UInt8 := UInt8.ofNat (48 + r)
/-- The digits ahead of the last one. -/
def preD (x : Nat) : List UInt8 := if x < 10 then [] else Lib.decDigits (x / 10)
theorem preD_dec (x : Nat) : preD x ++ [dgt (x % 10)] = Lib.decDigits x := by
  unfold preD
  by_cases h : x < 10
  · rw [if_pos h, Lib.decDigits_one h, Nat.mod_eq_of_lt h]; rfl
  · rw [if_neg h]
    conv => rhs; rw [Lib.decDigits, dif_neg h]
    rfl

/-- A byte made a text. -/
theorem one_byte (w : World) (r : Nat) (hr : r < 10) : (convert 64 9 (.slice (some ⟨w.heap.size, 0, none⟩) 1 1)).run Tryd.prog (w.alloc (.cells #[.int .u8 (48 + (r : Int))] 5)) = .ok (.string ⟨#[dgt r]⟩) (w.alloc (.cells #[.int .u8 (48 + (r : Int))] 5)) := by
  have h := run_convert_bytes_back (P := Tryd.prog) (w.alloc (.cells #[.int .u8 (48 + (r : Int))] 5)) 64 9 5 ⟨w.heap.size, 0, none⟩ 1 [dgt r] Tryd.underlying64 Tryd.underlying5 Tryd.underlying9 (by
    intro j hj
    obtain rfl : j = 0 := by simp at hj; omega
    have e : (w.alloc (.cells #[.int .u8 (48 + (r : Int))] 5)).cell? ⟨w.heap.size, 0, none⟩ = some (.int .u8 (48 + (r : Int))) := cell_one_new w _ 5 0 _ rfl
    rw [show (Addr.add ⟨w.heap.size, 0, none⟩ 0) = ⟨w.heap.size, 0, none⟩ from rfl, e]
    congr 2
    rw [List.getElem_singleton]
    unfold dgt
    rw [UInt8.toNat_ofNat']
    omega)
  exact h

theorem preD_step (y : Nat) (h : ¬ y < 10) : preD y = preD (y / 10) ++ [dgt ((y / 10) % 10)] := by
  rw [preD_dec]
  unfold preD
  rw [if_neg h]

set_option maxHeartbeats 2000000 in
set_option maxRecDepth 100000 in
theorem whole_any (x : Nat) (hx : x < 18446744073709551616) (w : World) :
    Calls Tryd.prog 27 #[.int .u64 (x : Int)] w fun e w' => e = .returned (.string ⟨(Lib.decDigits x).toArray⟩) ∧ Below w.heap.size w w' := by
  have hx10 : Hid (x < 10 ^ 20) := by unfold Hid; omega
  have e1 : (x : Int).tmod 10 = ((x % 10 : Nat) : Int) := by rw [Int.tmod_eq_emod_of_nonneg (by omega)]; omega
  obtain ⟨r, hr⟩ : ∃ r, Hid (x % 10 = r) := ⟨_, rfl⟩
  rw [unhide hr] at e1
  have hr9 : r < 10 := by have := unhide hr; omega
  have e2 : IntKind.u64.wrap (48 + (r : Int)) = 48 + (r : Int) := by rw [IntKind.wrap_u64]; omega
  have e3 : IntKind.u8.wrap (48 + (r : Int)) = 48 + (r : Int) := by rw [IntKind.wrap_u8]; omega
  have hcv := one_byte w r hr9
  have hst : Hid (preD x ++ [dgt r] = Lib.decDigits x) := by rw [← unhide hr]; exact preD_dec x
  obtain ⟨D, hD⟩ : ∃ D, Hid (Lib.decDigits x = D) := ⟨_, rfl⟩
  rw [unhide hD] at hst
  rw [unhide hD]
  have hle : Hid (x < 18446744073709551616) := hx
  clear hx hD
  go_enter Tryd.func27, Tryd.ntmps27
  go_wp2
  go_loopg [0, 3, 4] 20 (fun k xv sv iv wr => ∃ (y : Nat) (L : List UInt8) (S : ByteArray) (j : Nat), Hid (j + k = 20) ∧ xv = .int .u64 (y : Int) ∧ sv = .string S ∧ Hid (S = ⟨L.toArray⟩ ∧ preD y ++ L = D ∧ y < 10 ^ (20 - j) ∧ L.length = j + 1) ∧ iv = .int .i64 (j : Int) ∧ Hid (y < 18446744073709551616) ∧ Hid (Below w.heap.size w wr))
  case atStart => exact ⟨x, [dgt r], _, 0, by unfold Hid; omega, rfl, rfl, ⟨rfl, unhide hst, unhide hx10, rfl⟩, rfl, hle, (Below.refl _ w).alloc (Nat.le_refl _) _⟩
  case round =>
    clear e1 e2 e3 hcv hr9 hr hst hx10 hle
    obtain ⟨y, L, S, j, hk, rfl, rfl, hS, rfl, hy, HB⟩ := hrel
    by_cases hlt : j < 20 ∧ 10 ≤ y
    · have i1 : (j : Int) < 20 := by omega
      have i2 : (10 : Int) ≤ (y : Int) := by omega
      have hy64 := unhide hy
      have e0 : (y : Int).tdiv 10 = ((y / 10 : Nat) : Int) := by rw [Int.tdiv_eq_ediv_of_nonneg (by omega)]; omega
      obtain ⟨z, hz⟩ : ∃ z, Hid (y / 10 = z) := ⟨_, rfl⟩
      have hz64 : z < 18446744073709551616 := by have := unhide hz; omega
      rw [unhide hz] at e0
      have e01 : IntKind.u64.wrap (z : Int) = (z : Int) := by rw [IntKind.wrap_u64]; omega
      have e1 : (z : Int).tmod 10 = ((z % 10 : Nat) : Int) := by rw [Int.tmod_eq_emod_of_nonneg (by omega)]; omega
      obtain ⟨r, hr⟩ : ∃ r, Hid (z % 10 = r) := ⟨_, rfl⟩
      rw [unhide hr] at e1
      have hr9 : r < 10 := by have := unhide hr; omega
      have e2 : IntKind.u64.wrap (48 + (r : Int)) = 48 + (r : Int) := by rw [IntKind.wrap_u64]; omega
      have e3 : IntKind.u8.wrap (48 + (r : Int)) = 48 + (r : Int) := by rw [IntKind.wrap_u8]; omega
      have hcv := one_byte wr r hr9
      have hSz : Hid (S.size = j + 1) := by have h := unhide hS; unfold Hid; rw [h.1]; show L.toArray.size = _; simp [h.2.2.2]
      have had : ∀ w, (Op.stringOp .add ⟨#[dgt r]⟩ S).run Tryd.prog w = .ok (.string (⟨#[dgt r]⟩ ++ S)) w := fun w => run_string_add_sum w _ _ (by rw [unhide hSz]; show 1 + _ ≤ _; omega)
      have hlim : ¬ 9223372036854775807 < 1 + S.size := by rw [unhide hSz]; omega
      have e5 : IntKind.i64.wrap ((j : Int) + 1) = ((j + 1 : Nat) : Int) := by rw [IntKind.wrap_i64]; omega
      have HL := hide hlt
      clear hlt hy64 hz64
      go_wp2
      go_roundg (gk - 1)
      case measure => have := unhide hk; have := (unhide HL).1; omega
      case rel =>
        have h := unhide hS
        have h1 := unhide hk
        have h2 := unhide HL
        refine ⟨z, dgt r :: L, _, j + 1, by unfold Hid; omega, rfl, rfl, ⟨?_, ?_, ?_, by rw [List.length_cons, h.2.2.2]⟩, ?_, ?_, ?_⟩
        · rw [h.1, show (⟨#[dgt r]⟩ : ByteArray) = ⟨[dgt r].toArray⟩ from rfl, ByteArray.mk_append_mk]; rfl
        · rw [← h.2.1, preD_step y (by omega), unhide hz, unhide hr]; simp
        · have h3 := h.2.2.1
          rw [show 20 - j = (20 - (j + 1)) + 1 by omega, Nat.pow_succ] at h3
          have := unhide hz
          omega
        · first | rfl | (rw [e5]) | go_num
        · have := unhide hz; have := unhide hy; unfold Hid; omega
        · exact (unhide HB).alloc (unhide HB).size _
    · have hy9 : Hid (y < 10) := by
        unfold Hid
        by_cases hj : j < 20
        · omega
        · have h := (unhide hS).2.2.1
          have h1 := unhide hk
          rw [show 20 - j = 0 by omega] at h
          omega
      have hfin : Hid (S = ⟨D.toArray⟩) := by
        have h := unhide hS
        have h2 : preD y = [] := by unfold preD; rw [if_pos (unhide hy9)]
        unfold Hid
        rw [h.1, ← h.2.1, h2]
        rfl
      have i2 : ¬ (10 : Int) ≤ (y : Int) := by have := unhide hy9; omega
      clear hlt
      go_wp2
      all_goals
        go_ret
        exact ⟨by rw [← unhide hfin]; rfl, unhide HB⟩

set_option maxHeartbeats 2000000 in
set_option maxRecDepth 100000 in
theorem refInt_any (n : Int) (h0 : -9223372036854775808 ≤ n) (h1 : n ≤ 9223372036854775807) (w : World) :
    Calls Tryd.prog 12 #[.int .i64 n] w fun e w' => e = .returned (.string ⟨(Lib.itoa n).toArray⟩) ∧ Below w.heap.size w w' := by
  by_cases hn : n < 0
  · have hW := hide (whole_any n.natAbs (by omega))
    have hI : Lib.itoa n = 45 :: Lib.decDigits n.natAbs := by unfold Lib.itoa; rw [if_pos hn]
    rw [hI]
    clear hI
    obtain ⟨D, hD⟩ : ∃ D, Hid (Lib.decDigits n.natAbs = D) := ⟨_, rfl⟩
    have hDl : Hid (D.length ≤ 20) := by
      unfold Hid
      rw [← unhide hD, Lib.decDigits_length]
      exact Lib.nDigits_le20 _ (by omega)
    rw [unhide hD] at hW
    rw [unhide hD]
    obtain ⟨m, hm⟩ : ∃ m : Nat, n = -(m : Int) := ⟨n.natAbs, by omega⟩
    have hm0 : 0 < m := by omega
    have hmm : Hid (n.natAbs = m) := by unfold Hid; omega
    rw [unhide hmm] at hW
    subst hm
    have e1 : IntKind.u64.wrap (-(m : Int)) = 18446744073709551616 - (m : Int) := by rw [IntKind.wrap_u64]; omega
    have e2 : IntKind.u64.wrap (-(18446744073709551616 - (m : Int))) = (m : Int) := by rw [IntKind.wrap_u64]; omega
    have e3 : -(m : Int) < 0 := by omega
    have had : ∀ w, (Op.stringOp .add ⟨#[45]⟩ ⟨D.toArray⟩).run Tryd.prog w = .ok (.string ⟨(45 :: D).toArray⟩) w := fun w => by
      rw [run_string_add_sum w _ _ (by show 1 + D.toArray.size ≤ _; have := unhide hDl; simp; omega), show (⟨#[45]⟩ : ByteArray) = ⟨[45].toArray⟩ from rfl, ByteArray.mk_append_mk]
      rfl
    clear h0 h1 hn hmm hD
    go_enter Tryd.func12, Tryd.ntmps12
    go_wp2_with fail
    refine (unhide hW _).mono ?_
    rintro e w1 ⟨rfl, hb⟩
    have HB := hide hb
    clear hb
    go_wp2
    go_ret
    exact ⟨rfl, unhide HB⟩
  · obtain ⟨m, rfl⟩ := Int.eq_ofNat_of_zero_le (by omega : 0 ≤ n)
    have hW := hide (whole_any m (by omega))
    have hI : Lib.itoa (m : Int) = Lib.decDigits m := by unfold Lib.itoa; rw [if_neg hn]; rfl
    rw [hI]
    clear hI
    obtain ⟨D, hD⟩ : ∃ D, Hid (Lib.decDigits m = D) := ⟨_, rfl⟩
    rw [unhide hD] at hW
    rw [unhide hD]
    have e1 : IntKind.u64.wrap (m : Int) = (m : Int) := by rw [IntKind.wrap_u64]; omega
    have e3 : ¬ (m : Int) < 0 := by omega
    clear h0 h1 hn hD
    go_enter Tryd.func12, Tryd.ntmps12
    go_wp2_with fail
    refine (unhide hW _).mono ?_
    rintro e w1 ⟨rfl, hb⟩
    have HB := hide hb
    clear hb
    go_wp2
    go_ret
    exact ⟨rfl, unhide HB⟩

end Go.Proofs.YtpceokegcjombaaDoor
