/-
  Is a number that of a register; is it in the set; put in, taken out.
-/
import Derived.Test.YtiamoinhmkhaoaaLv0
import Derived.Test.YtiamoinhmkhaoaaLt
namespace Go.Proofs.Ytiamoinhmkhaoaa
open Go.RowKit
set_option linter.unusedVariables false
set_option linter.unusedSimpArgs false
abbrev Wd := Nat → Nat
def OkW (A : Wd) : Prop := ∀ k, A k < 18446744073709551616
abbrev wdA (A : Wd) : Array Value := #[.int .u64 (A 0), .int .u64 (A 1), .int .u64 (A 2), .int .u64 (A 3), .int .u64 (A 4), .int .u64 (A 5), .int .u64 (A 6), .int .u64 (A 7)]
def stV (A : Wd) : Value := .agg (wdA A)
/-- The set that eight words stand for. -/
def sS (A : Wd) : Rset := fun r => decide (r < 512) && (A (r / 64)).testBit (r % 64)
theorem sS_sup (A : Wd) : Sup (sS A) := fun r hr => by
  have : decide (r < 512) = false := by simp; omega
  simp [sS, this]
theorem sS_zero : sS (fun _ => 0) = fun _ => false := by funext r; simp [sS]
theorem sS_congr {A B : Wd} (h : ∀ k, k < 8 → A k = B k) : sS A = sS B := by
  funext r
  unfold sS
  by_cases hr : r < 512
  · rw [h (r / 64) (by omega)]
  · simp [hr]
theorem sS_inj {A B : Wd} (hA : OkW A) (hB : OkW B) (h : sS A = sS B) : ∀ k, k < 8 → A k = B k := fun k hk => by
  refine Nat.eq_of_testBit_eq (fun i => ?_)
  by_cases hi : i < 64
  · have := congrFun h (64 * k + i)
    unfold sS at this
    have h1 : decide (64 * k + i < 512) = true := by simp; omega
    rw [h1, show (64 * k + i) / 64 = k by omega, show (64 * k + i) % 64 = i by omega] at this
    simpa using this
  · have e1 : (A k).testBit i = false := Nat.testBit_lt_two_pow (Nat.lt_of_lt_of_le (hA k) (by
      have : 2 ^ 64 ≤ 2 ^ i := Nat.pow_le_pow_right (by omega) (by omega)
      omega))
    have e2 : (B k).testBit i = false := Nat.testBit_lt_two_pow (Nat.lt_of_lt_of_le (hB k) (by
      have : 2 ^ 64 ≤ 2 ^ i := Nat.pow_le_pow_right (by omega) (by omega)
      omega))
    rw [e1, e2]
/-- One register's bit is put in, or taken out. -/
def putW (A : Wd) (k : Nat) (x : Nat) : Wd := fun j => if j = k then x else A j
theorem OkW.put {A : Wd} (h : OkW A) (k : Nat) {x : Nat} (hx : x < 18446744073709551616) : OkW (putW A k x) := fun j => by
  unfold putW; split
  · exact hx
  · exact h j
theorem wrapN {n : Nat} (h : n < 18446744073709551616) : IntKind.u64.wrap (n : Int) = (n : Int) := by
  unfold IntKind.wrap
  simp [IntKind.bits, IntKind.signed]
  omega
theorem bitsOr {a b : Nat} (ha : a < 18446744073709551616) (hb : b < 18446744073709551616) : bits .or .u64 (a : Int) (b : Int) = ((a ||| b : Nat) : Int) := by
  have h3 : a ||| b < 18446744073709551616 := Nat.or_lt_two_pow (n := 64) ha hb
  unfold bits
  have e1 : (BitVec.ofInt IntKind.u64.bits (a : Int)) = BitVec.ofNat 64 a := by simp [IntKind.bits]
  have e2 : (BitVec.ofInt IntKind.u64.bits (b : Int)) = BitVec.ofNat 64 b := by simp [IntKind.bits]
  simp only [e1, e2]
  have e3 : (BitVec.ofNat 64 a ||| BitVec.ofNat 64 b).toNat = a ||| b := by
    rw [BitVec.toNat_or, BitVec.toNat_ofNat, BitVec.toNat_ofNat, Nat.mod_eq_of_lt ha, Nat.mod_eq_of_lt hb]
  rw [← wrapN h3]
  exact congrArg (fun n : Nat => IntKind.u64.wrap (n : Int)) e3
theorem bitsAnd {a b : Nat} (ha : a < 18446744073709551616) (hb : b < 18446744073709551616) : bits .and .u64 (a : Int) (b : Int) = ((a &&& b : Nat) : Int) := by
  have h3 : a &&& b < 18446744073709551616 := Nat.lt_of_le_of_lt Nat.and_le_left ha
  unfold bits
  have e1 : (BitVec.ofInt IntKind.u64.bits (a : Int)) = BitVec.ofNat 64 a := by simp [IntKind.bits]
  have e2 : (BitVec.ofInt IntKind.u64.bits (b : Int)) = BitVec.ofNat 64 b := by simp [IntKind.bits]
  simp only [e1, e2]
  have e3 : (BitVec.ofNat 64 a &&& BitVec.ofNat 64 b).toNat = a &&& b := by
    rw [BitVec.toNat_and, BitVec.toNat_ofNat, BitVec.toNat_ofNat, Nat.mod_eq_of_lt ha, Nat.mod_eq_of_lt hb]
  rw [← wrapN h3]
  exact congrArg (fun n : Nat => IntKind.u64.wrap (n : Int)) e3
def andNot (a b : Nat) : Nat := a &&& (18446744073709551615 ^^^ b)
theorem bitsNot {a b : Nat} (ha : a < 18446744073709551616) (hb : b < 18446744073709551616) : bits .andNot .u64 (a : Int) (b : Int) = ((andNot a b : Nat) : Int) := by
  have h3 : andNot a b < 18446744073709551616 := Nat.lt_of_le_of_lt Nat.and_le_left ha
  unfold bits
  have e1 : (BitVec.ofInt IntKind.u64.bits (a : Int)) = BitVec.ofNat 64 a := by simp [IntKind.bits]
  have e2 : (BitVec.ofInt IntKind.u64.bits (b : Int)) = BitVec.ofNat 64 b := by simp [IntKind.bits]
  simp only [e1, e2]
  have e3 : (BitVec.ofNat 64 a &&& ~~~ BitVec.ofNat 64 b).toNat = andNot a b := by
    rw [BitVec.toNat_and, BitVec.toNat_not, BitVec.toNat_ofNat, BitVec.toNat_ofNat, Nat.mod_eq_of_lt ha, Nat.mod_eq_of_lt hb]
    unfold andNot
    congr 1
    have e4 : (BitVec.ofNat 64 18446744073709551615 ^^^ BitVec.ofNat 64 b) = ~~~ BitVec.ofNat 64 b := by
      rw [show BitVec.ofNat 64 18446744073709551615 = BitVec.allOnes 64 from rfl, BitVec.allOnes_xor]
    have e5 := congrArg BitVec.toNat e4
    rw [BitVec.toNat_xor, BitVec.toNat_not, BitVec.toNat_ofNat, BitVec.toNat_ofNat, Nat.mod_eq_of_lt hb] at e5
    exact e5.symm
  rw [← wrapN h3]
  exact congrArg (fun n : Nat => IntKind.u64.wrap (n : Int)) e3
theorem one_lt {j : Nat} (hj : j < 64) : 2 ^ j < 18446744073709551616 := Nat.lt_of_lt_of_le (Nat.pow_lt_pow_right (by omega) hj) (Nat.le_refl _)
theorem shlOne {j : Nat} (hj : j < 64) : IntKind.u64.wrap (1 * 2 ^ ((j : Int).toNat)) = ((2 ^ j : Nat) : Int) := by
  have h := wrapN (one_lt hj)
  rw [← h]
  simp
theorem tb_one (j i : Nat) : (2 ^ j).testBit i = decide (j = i) := Nat.testBit_two_pow
theorem tb_not {a : Nat} (ha : a < 18446744073709551616) {j : Nat} (hj : j < 64) (i : Nat) : (andNot a (2 ^ j)).testBit i = (a.testBit i && decide (j ≠ i)) := by
  unfold andNot
  rw [Nat.testBit_and, Nat.testBit_xor, tb_one]
  by_cases hi : i < 64
  · have : Nat.testBit 18446744073709551615 i = true := by
      rw [show (18446744073709551615 : Nat) = 2 ^ 64 - 1 from rfl, Nat.testBit_two_pow_sub_one]; simpa using hi
    rw [this]
    by_cases e : j = i <;> simp [e]
  · have e1 : a.testBit i = false := Nat.testBit_lt_two_pow (Nat.lt_of_lt_of_le ha (by
      have : 2 ^ 64 ≤ 2 ^ i := Nat.pow_le_pow_right (by omega) (by omega)
      omega))
    rw [e1]; simp
theorem and_bit {a j : Nat} (hj : j < 64) : decide (((a &&& 2 ^ j : Nat) : Int) ≠ 0) = a.testBit j := by
  have h : a &&& 2 ^ j = if a.testBit j then 2 ^ j else 0 := by
    refine Nat.eq_of_testBit_eq (fun i => ?_)
    rw [Nat.testBit_and, tb_one]
    by_cases e : j = i
    · subst e; cases a.testBit j <;> simp
    · cases a.testBit j <;> simp [e]
  rw [h]
  cases a.testBit j
  · simp
  · have h0 : 0 < 2 ^ j := Nat.pow_pos (by omega)
    simp only [if_pos]
    exact decide_eq_true (by omega)
def pbit (S : Rset) (d : Nat) (b : Bool) : Rset := fun r => if r = d then b else S r
theorem sS_or {A : Wd} {d : Nat} (hd : d < 512) : sS (putW A (d / 64) (A (d / 64) ||| 2 ^ (d % 64))) = pbit (sS A) d true := by
  funext r
  unfold sS putW pbit
  by_cases hr : r < 512
  · by_cases e : r / 64 = d / 64
    · rw [if_pos e, Nat.testBit_or, tb_one]
      by_cases q : r = d
      · subst q; simp [hr]
      · have : ¬ d % 64 = r % 64 := by omega
        rw [if_neg q]
        show _ = (decide (r < 512) && (A (r / 64)).testBit (r % 64))
        rw [e]; simp [this]
    · have q : r ≠ d := fun q => e (by rw [q])
      rw [if_neg e, if_neg q]
  · have q : r ≠ d := by omega
    simp [hr, q]
theorem sS_not {A : Wd} (hA : OkW A) {d : Nat} (hd : d < 512) : sS (putW A (d / 64) (andNot (A (d / 64)) (2 ^ (d % 64)))) = pbit (sS A) d false := by
  funext r
  unfold sS putW pbit
  by_cases hr : r < 512
  · by_cases e : r / 64 = d / 64
    · rw [if_pos e, tb_not (hA _) (by omega)]
      by_cases q : r = d
      · subst q; simp
      · have : ¬ d % 64 = r % 64 := by omega
        rw [if_neg q]
        show _ = (decide (r < 512) && (A (r / 64)).testBit (r % 64))
        rw [e]; simp [this]
    · have q : r ≠ d := fun q => e (by rw [q])
      rw [if_neg e, if_neg q]
  · have q : r ≠ d := by omega
    simp [hr, q]
theorem sS_join {A B : Wd} : sS (fun k => A k ||| B k) = orS (sS A) (sS B) := by
  funext r
  show (decide (r < 512) && (A (r / 64) ||| B (r / 64)).testBit (r % 64)) = ((decide (r < 512) && (A (r / 64)).testBit (r % 64)) || (decide (r < 512) && (B (r / 64)).testBit (r % 64)))
  rw [Nat.testBit_or]
  cases decide (r < 512) <;> simp

set_option linter.unusedVariables false
set_option linter.unusedSimpArgs false
set_option maxRecDepth 100000 in
set_option maxHeartbeats 3200000 in
theorem register_yes (d : Nat) (hd : d < 512) (w : World) : Calls Try.prog 61 #[.int .i64 (d : Int)] w fun e w' => e = .returned (.bool true) ∧ ∃ m, w' = w.drewN m := by
  have i0 : (0 : Int) ≤ (d : Int) := by omega
  have i1 : (d : Int) < 512 := by omega
  go_enter Try.func61, Try.ntmps61
  go_wp2_with fail
  go_ret
  exact ⟨rfl, 0, rfl⟩
set_option maxRecDepth 100000 in
set_option maxHeartbeats 3200000 in
theorem register_no (d : Int) (hd : ¬ (0 ≤ d ∧ d < 512)) (w : World) : Calls Try.prog 61 #[.int .i64 d] w fun e w' => e = .returned (.bool false) ∧ ∃ m, w' = w.drewN m := by
  by_cases i0 : (0 : Int) ≤ d
  · have i1 : ¬ d < 512 := by omega
    go_enter Try.func61, Try.ntmps61
    go_wp2_with fail
    go_ret
    exact ⟨rfl, 0, rfl⟩
  · have i1 : d < 512 := by omega
    go_enter Try.func61, Try.ntmps61
    go_wp2_with fail
    go_ret
    exact ⟨rfl, 0, rfl⟩
theorem wd_at {A : Wd} {k : Nat} (h : k < 8) : (wdA A)[k]? = some (.int .u64 (A k)) := by
  match k, h with
  | 0, _ => rfl
  | 1, _ => rfl
  | 2, _ => rfl
  | 3, _ => rfl
  | 4, _ => rfl
  | 5, _ => rfl
  | 6, _ => rfl
  | 7, _ => rfl
  | (n + 8), h => omega
theorem wd_set {A : Wd} {k : Nat} (h : k < 8) (x : Nat) : (wdA A).setIfInBounds k (.int .u64 (x : Int)) = wdA (putW A k x) := by
  match k, h with
  | 0, _ => rfl
  | 1, _ => rfl
  | 2, _ => rfl
  | 3, _ => rfl
  | 4, _ => rfl
  | 5, _ => rfl
  | 6, _ => rfl
  | 7, _ => rfl
  | (n + 8), h => omega
theorem shl1 {j : Nat} (hj : j < 64) : IntKind.u64.wrap ((2 : Int) ^ j) = ((2 ^ j : Nat) : Int) := by
  have h := wrapN (one_lt hj)
  rw [← h]
  simp
theorem andBit {a j : Nat} (ha : a < 18446744073709551616) (hj : j < 64) : (bits .and .u64 (a : Int) (IntKind.u64.wrap (2 ^ j)) != 0) = a.testBit j := by
  rw [shl1 hj, bitsAnd ha (one_lt hj), ← and_bit hj]
  by_cases h : ((a &&& 2 ^ j : Nat) : Int) = 0
  · simp [h]
  · rw [decide_eq_true h]; simpa using h
set_option maxRecDepth 100000 in
set_option maxHeartbeats 3200000 in
theorem has_any {w : World} {b : Nat} {A : Wd} (hA : OkW A) (hb : w.heap[b]? = some (.cells (wdA A) 59)) (d : Int) : Calls Try.prog 55 #[.pointer (some ⟨b, 0, none⟩), .int .i64 d] w fun e w' => e = .returned (.bool (inS (sS A) d)) ∧ ∃ m, w' = w.drewN m := by
  by_cases hd : 0 ≤ d ∧ d < 512
  · obtain ⟨n, rfl⟩ : ∃ n : Nat, d = (n : Int) := ⟨d.toNat, by omega⟩
    obtain ⟨k, hk⟩ : ∃ k, Hid (n / 64 = k) := ⟨_, hide rfl⟩
    obtain ⟨j, hj⟩ : ∃ j, Hid (n % 64 = j) := ⟨_, hide rfl⟩
    have hk8 : k < 8 := by have := unhide hk; omega
    have hj6 : j < 64 := by have := unhide hj; omega
    have k0 : (n : Int) / 64 = (k : Int) := by have := unhide hk; omega
    have j0 : (n : Int) % 64 = (j : Int) := by have := unhide hj; omega
    have c0 : w.cell? ⟨b, k, none⟩ = some (.int .u64 (A k)) := by rw [(blk_cells hb).1 k]; exact wd_at hk8
    have hr : inS (sS A) (n : Int) = (A k).testBit j := by
      have h1 : decide (n < 512) = true := by simp; omega
      simp only [inS, sS]
      rw [show ((n : Int)).toNat = n by simp, h1, unhide hk, unhide hj]
      simp
    rw [hr, ← andBit (hA k) hj6]
    clear hr
    go_enter Try.func55, Try.ntmps55
    go_wp2_with fail
    go_quiet (first | exact Calls.quiet_of (register_yes n (by omega) _))
    go_wp2_with fail
    go_ret
    exact ⟨rfl, _, rfl⟩
  · have hr : inS (sS A) d = false := by
      unfold inS sS
      by_cases h0 : 0 ≤ d
      · have : ¬ d.toNat < 512 := by omega
        simp [this]
      · simp [h0]
    rw [hr]
    go_enter Try.func55, Try.ntmps55
    go_wp2_with fail
    go_quiet (first | exact Calls.quiet_of (register_no d hd _))
    go_wp2_with fail
    go_ret
    exact ⟨rfl, _, rfl⟩
set_option maxRecDepth 100000 in
set_option maxHeartbeats 3200000 in
theorem add_any {w : World} {b : Nat} {A : Wd} (hA : OkW A) (hb : w.heap[b]? = some (.cells (wdA A) 59)) (d : Int) : Calls Try.prog 62 #[.pointer (some ⟨b, 0, none⟩), .int .i64 d] w fun e w' => (∃ v, e = .returned v) ∧ Fr (fun q => q = b) w w' ∧ ∃ A', OkW A' ∧ w'.heap[b]? = some (.cells (wdA A') 59) ∧ sS A' = (if 0 ≤ d ∧ d < 512 then pbit (sS A) d.toNat true else sS A) := by
  by_cases hd : 0 ≤ d ∧ d < 512
  · obtain ⟨n, rfl⟩ : ∃ n : Nat, d = (n : Int) := ⟨d.toNat, by omega⟩
    rw [if_pos hd]
    obtain ⟨k, hk⟩ : ∃ k, Hid (n / 64 = k) := ⟨_, hide rfl⟩
    obtain ⟨j, hj⟩ : ∃ j, Hid (n % 64 = j) := ⟨_, hide rfl⟩
    have hk8 : k < 8 := by have := unhide hk; omega
    have hj6 : j < 64 := by have := unhide hj; omega
    have k0 : (n : Int) / 64 = (k : Int) := by have := unhide hk; omega
    have j0 : (n : Int) % 64 = (j : Int) := by have := unhide hj; omega
    have hn : (n : Int).toNat = n := by simp
    have k1 : IntKind.i64.wrap (k : Int) = (k : Int) := by unfold IntKind.wrap; simp [IntKind.bits, IntKind.signed]; omega
    have k2 : ¬ (8 : Int) ≤ (k : Int) := by omega
    have k3 : (k : Int) < 8 := by omega
    have j1 : (n : Int).tmod 64 = (j : Int) := by rw [Int.tmod_eq_emod_of_nonneg (by omega)]; exact j0
    rw [hn]
    clear hn
    go_enter Try.func62, Try.ntmps62
    go_wp2_with fail
    refine (register_yes n (by omega) _).mono ?_
    rintro e w1 ⟨rfl, m, hw1⟩
    have HB1 : Hid (w1.heap[b]? = some (.cells (wdA A) 59)) := by rw [hw1]; exact hb
    have HF1 : Hid (Fr (fun q => q = b) w w1) := by rw [hw1]; exact Fr.drewN m
    clear hw1 hb
    go_wp2_with fail
    have HS0 : Hid ((fun V : World => V.heap[b]? = some (.cells (wdA A) 59)) w1) := unhide HB1
    have HS : Hid ((fun V : World => V.heap[b]? = some (.cells (wdA A) 59)) w1.drew) := unhide HB1
    refine wp_region_later (S := (fun V : World => V.heap[b]? = some (.cells (wdA A) 59))) (m := 12) (by kernel_rfl) ?_
    refine wpAnyL_takeU (i := 0) (oi := _) (v := .pointer (some ⟨b, 0, none⟩)) rfl (by kernel_rfl) (by kernel_rfl) (by kernel_rfl) (by decide) (fun _ _ _ h => h) (Or.inl ⟨by rfl, (by intro w' _; go_simp)⟩) (fun _ => unhide HS) ?_
    go_simp
    refine wpAnyL_takeU (i := 1) (oi := _) (v := .int .i64 (n : Int)) rfl (by kernel_rfl) (by kernel_rfl) (by kernel_rfl) (by decide) (fun _ _ _ h => h) (Or.inl ⟨by rfl, (by intro w' _; go_simp)⟩) (fun _ => unhide HS) ?_
    go_simp
    refine wpAnyL_takeU (i := 2) (oi := _) (v := .int .i64 (k : Int)) rfl (by kernel_rfl) (by kernel_rfl) (by kernel_rfl) (by decide) (fun _ _ _ h => h) (Or.inl ⟨by rfl, (by intro w' _; go_simp)⟩) (fun _ => unhide HS) ?_
    go_simp
    refine wpAnyL_takeU (i := 3) (oi := _) (v := .pointer (some ⟨b, 0, none⟩)) rfl (by kernel_rfl) (by kernel_rfl) (by kernel_rfl) (by decide) (fun _ _ _ h => h) (Or.inl ⟨by rfl, (by intro w' _; go_simp)⟩) (fun _ => unhide HS) ?_
    go_simp
    refine wpAnyL_takeU (i := 4) (oi := _) (v := .pointer (some ⟨b, k, none⟩)) rfl (by kernel_rfl) (by kernel_rfl) (by kernel_rfl) (by decide) (fun _ _ _ h => h) (Or.inl ⟨by rfl, (by intro w' _; go_simp)⟩) (fun _ => unhide HS) ?_
    go_simp
    refine wpAnyL_take (i := 5) (oi := _) (om := _) (v := .int .u64 (A k : Int)) rfl rfl (by kernel_rfl) (by kernel_rfl) (by kernel_rfl) (by kernel_rfl) (by decide) (by kernel_rfl) (fun _ _ _ h => h) (Or.inl ⟨by rfl, (by intro w' hSw; have c0 : w'.cell? ⟨b, k, none⟩ = some (.int .u64 (A k : Int)) := ((blk_cells hSw).1 k).trans (wd_at hk8); go_simp)⟩) (unhide HS) ?_
    go_simp
    refine wpAnyL_takeU (i := 6) (oi := _) (v := .int .i64 (n : Int)) rfl (by kernel_rfl) (by kernel_rfl) (by kernel_rfl) (by decide) (fun _ _ _ h => h) (Or.inl ⟨by rfl, (by intro w' _; go_simp)⟩) (fun _ => unhide HS) ?_
    go_simp
    refine wpAnyL_takeU (i := 7) (oi := _) (v := .int .i64 ((n : Int) % 64)) rfl (by kernel_rfl) (by kernel_rfl) (by kernel_rfl) (by decide) (fun _ _ _ h => h) (Or.inl ⟨by rfl, (by intro w' _; go_simp)⟩) (fun _ => unhide HS) ?_
    go_simp
    refine wpAnyL_takeU (i := 8) (oi := _) (v := .int .u64 (IntKind.u64.wrap (2 ^ j))) rfl (by kernel_rfl) (by kernel_rfl) (by kernel_rfl) (by decide) (fun _ _ _ h => h) (Or.inl ⟨by rfl, (by intro w' _; go_simp)⟩) (fun _ => unhide HS) ?_
    go_simp
    refine wpAnyL_takeU (i := 9) (oi := _) (v := .int .u64 (bits .or .u64 (A k : Int) (IntKind.u64.wrap (2 ^ j)))) rfl (by kernel_rfl) (by kernel_rfl) (by kernel_rfl) (by decide) (fun _ _ _ h => h) (Or.inl ⟨by rfl, (by intro w' _; go_simp)⟩) (fun _ => unhide HS) ?_
    go_simp
    refine wpAnyL_takeU (i := 10) (oi := _) (v := .pointer (some ⟨b, 0, none⟩)) rfl (by kernel_rfl) (by kernel_rfl) (by kernel_rfl) (by decide) (fun _ _ _ h => h) (Or.inl ⟨by rfl, (by intro w' _; go_simp)⟩) (fun _ => unhide HS) ?_
    go_simp
    refine wpAnyL_takeU (i := 11) (oi := _) (v := .pointer (some ⟨b, k, none⟩)) rfl (by kernel_rfl) (by kernel_rfl) (by kernel_rfl) (by decide) (fun _ _ _ h => h) (Or.inl ⟨by rfl, (by intro w' _; go_simp)⟩) (fun _ => unhide HS) ?_
    go_simp
    have c0 : w1.drew.cell? ⟨b, k, none⟩ = some (.int .u64 (A k : Int)) := ((blk_cells (unhide HS)).1 k).trans (wd_at hk8)
    have f0 := (blk_cells (unhide HS)).2.1 k
    refine wpAnyL_one (i := 12) (o := _) (by kernel_rfl) rfl (fun K hK => ?_)
    go_simp
    refine hK _ _ (fun q => absurd q (by decide)) ?_
    refine wpAnyL_done (by kernel_rfl) ?_ _
    go_wp2_with fail
    go_end0
    have e := bitsOr (hA k) (one_lt hj6)
    rw [shl1 hj6, e]
    have HB2 := unhide HB1
    refine ⟨⟨_, rfl⟩, (unhide HF1).trans (Fr.setCell (S := fun q => q = b) (Fr.refl _ w1) ⟨b, k, none⟩ (.inr rfl) _).drew, putW A k (A k ||| 2 ^ j), hA.put k ?_, ?_, ?_⟩
    · exact Nat.or_lt_two_pow (n := 64) (hA k) (one_lt hj6)
    · have q := setCell_block (w := w1) (o := k) HB2 (.int .u64 ((A k ||| 2 ^ j : Nat) : Int))
      rw [wd_set hk8] at q
      exact q
    · have q := sS_or (A := A) (d := n) (by omega)
      rw [unhide hk, unhide hj] at q
      exact q
  · rw [if_neg hd]
    go_enter Try.func62, Try.ntmps62
    go_wp2_with fail
    refine (register_no d hd _).mono ?_
    rintro e w1 ⟨rfl, m, rfl⟩
    go_wp2_with fail
    go_end0
    exact ⟨⟨_, rfl⟩, Fr.drewN m, A, hA, hb, rfl⟩
set_option maxRecDepth 100000 in
set_option maxHeartbeats 3200000 in
theorem remove_any {w : World} {b : Nat} {A : Wd} (hA : OkW A) (hb : w.heap[b]? = some (.cells (wdA A) 59)) (d : Int) : Calls Try.prog 56 #[.pointer (some ⟨b, 0, none⟩), .int .i64 d] w fun e w' => (∃ v, e = .returned v) ∧ Fr (fun q => q = b) w w' ∧ ∃ A', OkW A' ∧ w'.heap[b]? = some (.cells (wdA A') 59) ∧ sS A' = (if 0 ≤ d ∧ d < 512 then pbit (sS A) d.toNat false else sS A) := by
  by_cases hd : 0 ≤ d ∧ d < 512
  · obtain ⟨n, rfl⟩ : ∃ n : Nat, d = (n : Int) := ⟨d.toNat, by omega⟩
    rw [if_pos hd]
    obtain ⟨k, hk⟩ : ∃ k, Hid (n / 64 = k) := ⟨_, hide rfl⟩
    obtain ⟨j, hj⟩ : ∃ j, Hid (n % 64 = j) := ⟨_, hide rfl⟩
    have hk8 : k < 8 := by have := unhide hk; omega
    have hj6 : j < 64 := by have := unhide hj; omega
    have k0 : (n : Int) / 64 = (k : Int) := by have := unhide hk; omega
    have j0 : (n : Int) % 64 = (j : Int) := by have := unhide hj; omega
    have hn : (n : Int).toNat = n := by simp
    have k1 : IntKind.i64.wrap (k : Int) = (k : Int) := by unfold IntKind.wrap; simp [IntKind.bits, IntKind.signed]; omega
    have k2 : ¬ (8 : Int) ≤ (k : Int) := by omega
    have k3 : (k : Int) < 8 := by omega
    have j1 : (n : Int).tmod 64 = (j : Int) := by rw [Int.tmod_eq_emod_of_nonneg (by omega)]; exact j0
    rw [hn]
    clear hn
    go_enter Try.func56, Try.ntmps56
    go_wp2_with fail
    refine (register_yes n (by omega) _).mono ?_
    rintro e w1 ⟨rfl, m, hw1⟩
    have HB1 : Hid (w1.heap[b]? = some (.cells (wdA A) 59)) := by rw [hw1]; exact hb
    have HF1 : Hid (Fr (fun q => q = b) w w1) := by rw [hw1]; exact Fr.drewN m
    clear hw1 hb
    go_wp2_with fail
    have HS0 : Hid ((fun V : World => V.heap[b]? = some (.cells (wdA A) 59)) w1) := unhide HB1
    have HS : Hid ((fun V : World => V.heap[b]? = some (.cells (wdA A) 59)) w1.drew) := unhide HB1
    refine wp_region_later (S := (fun V : World => V.heap[b]? = some (.cells (wdA A) 59))) (m := 12) (by kernel_rfl) ?_
    refine wpAnyL_takeU (i := 0) (oi := _) (v := .pointer (some ⟨b, 0, none⟩)) rfl (by kernel_rfl) (by kernel_rfl) (by kernel_rfl) (by decide) (fun _ _ _ h => h) (Or.inl ⟨by rfl, (by intro w' _; go_simp)⟩) (fun _ => unhide HS) ?_
    go_simp
    refine wpAnyL_takeU (i := 1) (oi := _) (v := .int .i64 (n : Int)) rfl (by kernel_rfl) (by kernel_rfl) (by kernel_rfl) (by decide) (fun _ _ _ h => h) (Or.inl ⟨by rfl, (by intro w' _; go_simp)⟩) (fun _ => unhide HS) ?_
    go_simp
    refine wpAnyL_takeU (i := 2) (oi := _) (v := .int .i64 (k : Int)) rfl (by kernel_rfl) (by kernel_rfl) (by kernel_rfl) (by decide) (fun _ _ _ h => h) (Or.inl ⟨by rfl, (by intro w' _; go_simp)⟩) (fun _ => unhide HS) ?_
    go_simp
    refine wpAnyL_takeU (i := 3) (oi := _) (v := .pointer (some ⟨b, 0, none⟩)) rfl (by kernel_rfl) (by kernel_rfl) (by kernel_rfl) (by decide) (fun _ _ _ h => h) (Or.inl ⟨by rfl, (by intro w' _; go_simp)⟩) (fun _ => unhide HS) ?_
    go_simp
    refine wpAnyL_takeU (i := 4) (oi := _) (v := .pointer (some ⟨b, k, none⟩)) rfl (by kernel_rfl) (by kernel_rfl) (by kernel_rfl) (by decide) (fun _ _ _ h => h) (Or.inl ⟨by rfl, (by intro w' _; go_simp)⟩) (fun _ => unhide HS) ?_
    go_simp
    refine wpAnyL_take (i := 5) (oi := _) (om := _) (v := .int .u64 (A k : Int)) rfl rfl (by kernel_rfl) (by kernel_rfl) (by kernel_rfl) (by kernel_rfl) (by decide) (by kernel_rfl) (fun _ _ _ h => h) (Or.inl ⟨by rfl, (by intro w' hSw; have c0 : w'.cell? ⟨b, k, none⟩ = some (.int .u64 (A k : Int)) := ((blk_cells hSw).1 k).trans (wd_at hk8); go_simp)⟩) (unhide HS) ?_
    go_simp
    refine wpAnyL_takeU (i := 6) (oi := _) (v := .int .i64 (n : Int)) rfl (by kernel_rfl) (by kernel_rfl) (by kernel_rfl) (by decide) (fun _ _ _ h => h) (Or.inl ⟨by rfl, (by intro w' _; go_simp)⟩) (fun _ => unhide HS) ?_
    go_simp
    refine wpAnyL_takeU (i := 7) (oi := _) (v := .int .i64 ((n : Int) % 64)) rfl (by kernel_rfl) (by kernel_rfl) (by kernel_rfl) (by decide) (fun _ _ _ h => h) (Or.inl ⟨by rfl, (by intro w' _; go_simp)⟩) (fun _ => unhide HS) ?_
    go_simp
    refine wpAnyL_takeU (i := 8) (oi := _) (v := .int .u64 (IntKind.u64.wrap (2 ^ j))) rfl (by kernel_rfl) (by kernel_rfl) (by kernel_rfl) (by decide) (fun _ _ _ h => h) (Or.inl ⟨by rfl, (by intro w' _; go_simp)⟩) (fun _ => unhide HS) ?_
    go_simp
    refine wpAnyL_takeU (i := 9) (oi := _) (v := .int .u64 (bits .andNot .u64 (A k : Int) (IntKind.u64.wrap (2 ^ j)))) rfl (by kernel_rfl) (by kernel_rfl) (by kernel_rfl) (by decide) (fun _ _ _ h => h) (Or.inl ⟨by rfl, (by intro w' _; go_simp)⟩) (fun _ => unhide HS) ?_
    go_simp
    refine wpAnyL_takeU (i := 10) (oi := _) (v := .pointer (some ⟨b, 0, none⟩)) rfl (by kernel_rfl) (by kernel_rfl) (by kernel_rfl) (by decide) (fun _ _ _ h => h) (Or.inl ⟨by rfl, (by intro w' _; go_simp)⟩) (fun _ => unhide HS) ?_
    go_simp
    refine wpAnyL_takeU (i := 11) (oi := _) (v := .pointer (some ⟨b, k, none⟩)) rfl (by kernel_rfl) (by kernel_rfl) (by kernel_rfl) (by decide) (fun _ _ _ h => h) (Or.inl ⟨by rfl, (by intro w' _; go_simp)⟩) (fun _ => unhide HS) ?_
    go_simp
    have c0 : w1.drew.cell? ⟨b, k, none⟩ = some (.int .u64 (A k : Int)) := ((blk_cells (unhide HS)).1 k).trans (wd_at hk8)
    have f0 := (blk_cells (unhide HS)).2.1 k
    refine wpAnyL_one (i := 12) (o := _) (by kernel_rfl) rfl (fun K hK => ?_)
    go_simp
    refine hK _ _ (fun q => absurd q (by decide)) ?_
    refine wpAnyL_done (by kernel_rfl) ?_ _
    go_wp2_with fail
    go_end0
    have e := bitsNot (hA k) (one_lt hj6)
    rw [shl1 hj6, e]
    have HB2 := unhide HB1
    refine ⟨⟨_, rfl⟩, (unhide HF1).trans (Fr.setCell (S := fun q => q = b) (Fr.refl _ w1) ⟨b, k, none⟩ (.inr rfl) _).drew, putW A k (andNot (A k) (2 ^ j)), hA.put k ?_, ?_, ?_⟩
    · exact Nat.lt_of_le_of_lt Nat.and_le_left (hA k)
    · have q := setCell_block (w := w1) (o := k) HB2 (.int .u64 ((andNot (A k) (2 ^ j) : Nat) : Int))
      rw [wd_set hk8] at q
      exact q
    · have q := sS_not hA (d := n) (by omega)
      rw [unhide hk, unhide hj] at q
      exact q
  · rw [if_neg hd]
    go_enter Try.func56, Try.ntmps56
    go_wp2_with fail
    refine (register_no d hd _).mono ?_
    rintro e w1 ⟨rfl, m, rfl⟩
    go_wp2_with fail
    go_end0
    exact ⟨⟨_, rfl⟩, Fr.drewN m, A, hA, hb, rfl⟩
end Go.Proofs.Ytiamoinhmkhaoaa
