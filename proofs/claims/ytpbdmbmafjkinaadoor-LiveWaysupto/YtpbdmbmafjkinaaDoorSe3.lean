/-
  Idle instructions; what is wanted ahead of one.
-/
import Derived.Test.YtpbdmbmafjkinaaDoorSe0
namespace Go.Proofs.YtpbdmbmafjkinaaDoor
open Go.RowKit
set_option linter.unusedVariables false
set_option linter.unusedSimpArgs false
set_option maxRecDepth 100000 in
set_option maxHeartbeats 3200000 in
theorem register_yes (d : Nat) (hd : d < 512) (w : World) : Calls Tryd.prog 74 #[.int .i64 (d : Int)] w fun e w' => e = .returned (.bool true) ∧ ∃ m, w' = w.drewN m := by
  have i0 : (0 : Int) ≤ (d : Int) := by omega
  have i1 : (d : Int) < 512 := by omega
  go_enter Tryd.func74, Tryd.ntmps74
  go_wp2_with fail
  go_ret
  exact ⟨rfl, 0, rfl⟩
set_option maxRecDepth 100000 in
set_option maxHeartbeats 3200000 in
theorem register_no (d : Int) (hd : ¬ (0 ≤ d ∧ d < 512)) (w : World) : Calls Tryd.prog 74 #[.int .i64 d] w fun e w' => e = .returned (.bool false) ∧ ∃ m, w' = w.drewN m := by
  by_cases i0 : (0 : Int) ≤ d
  · have i1 : ¬ d < 512 := by omega
    go_enter Tryd.func74, Tryd.ntmps74
    go_wp2_with fail
    go_ret
    exact ⟨rfl, 0, rfl⟩
  · have i1 : d < 512 := by omega
    go_enter Tryd.func74, Tryd.ntmps74
    go_wp2_with fail
    go_ret
    exact ⟨rfl, 0, rfl⟩
theorem wd_at {A : Wd} {k : Nat} (h : k < 8) : (wdA A)[k]? = some (.int .u64 (A k)) := by
  match k, h with
  | 0, _ => rfl
  | 1, _ => rfl
  | 2, _ => rfl
  | 3, _ => rfl
  | 4, _ => rfl
  | 5, _ => rfl
  | 6, _ => rfl
  | 7, _ => rfl
  | (n + 8), h => omega
theorem wd_set {A : Wd} {k : Nat} (h : k < 8) (x : Nat) : (wdA A).setIfInBounds k (.int .u64 (x : Int)) = wdA (putW A k x) := by
  match k, h with
  | 0, _ => rfl
  | 1, _ => rfl
  | 2, _ => rfl
  | 3, _ => rfl
  | 4, _ => rfl
  | 5, _ => rfl
  | 6, _ => rfl
  | 7, _ => rfl
  | (n + 8), h => omega
theorem shl1 {j : Nat} (hj : j < 64) : IntKind.u64.wrap ((2 : Int) ^ j) = ((2 ^ j : Nat) : Int) := by
  have h := wrapN (one_lt hj)
  rw [← h]
  simp
theorem andBit {a j : Nat} (ha : a < 18446744073709551616) (hj : j < 64) : (bits .and .u64 (a : Int) (IntKind.u64.wrap (2 ^ j)) != 0) = a.testBit j := by
  rw [shl1 hj, bitsAnd ha (one_lt hj), ← and_bit hj]
  by_cases h : ((a &&& 2 ^ j : Nat) : Int) = 0
  · simp [h]
  · rw [decide_eq_true h]; simpa using h
set_option maxRecDepth 100000 in
set_option maxHeartbeats 3200000 in
theorem has_any {w : World} {b : Nat} {A : Wd} (hA : OkW A) (hb : w.heap[b]? = some (.cells (wdA A) 62)) (d : Int) : Calls Tryd.prog 72 #[.pointer (some ⟨b, 0, none⟩), .int .i64 d] w fun e w' => e = .returned (.bool (inS (sS A) d)) ∧ ∃ m, w' = w.drewN m := by
  by_cases hd : 0 ≤ d ∧ d < 512
  · obtain ⟨n, rfl⟩ : ∃ n : Nat, d = (n : Int) := ⟨d.toNat, by omega⟩
    obtain ⟨k, hk⟩ : ∃ k, Hid (n / 64 = k) := ⟨_, hide rfl⟩
    obtain ⟨j, hj⟩ : ∃ j, Hid (n % 64 = j) := ⟨_, hide rfl⟩
    have hk8 : k < 8 := by have := unhide hk; omega
    have hj6 : j < 64 := by have := unhide hj; omega
    have k0 : (n : Int) / 64 = (k : Int) := by have := unhide hk; omega
    have j0 : (n : Int) % 64 = (j : Int) := by have := unhide hj; omega
    have c0 : w.cell? ⟨b, k, none⟩ = some (.int .u64 (A k)) := by rw [(blk_cells hb).1 k]; exact wd_at hk8
    have hr : inS (sS A) (n : Int) = (A k).testBit j := by
      have h1 : decide (n < 512) = true := by simp; omega
      simp only [inS, sS]
      rw [show ((n : Int)).toNat = n by simp, h1, unhide hk, unhide hj]
      simp
    rw [hr, ← andBit (hA k) hj6]
    clear hr
    go_enter Tryd.func72, Tryd.ntmps72
    go_wp2_with fail
    go_quiet (first | exact Calls.quiet_of (register_yes n (by omega) _))
    go_wp2_with fail
    go_ret
    exact ⟨rfl, _, rfl⟩
  · have hr : inS (sS A) d = false := by
      unfold inS sS
      by_cases h0 : 0 ≤ d
      · have : ¬ d.toNat < 512 := by omega
        simp [this]
      · simp [h0]
    rw [hr]
    go_enter Tryd.func72, Tryd.ntmps72
    go_wp2_with fail
    go_quiet (first | exact Calls.quiet_of (register_no d hd _))
    go_wp2_with fail
    go_ret
    exact ⟨rfl, _, rfl⟩
set_option maxRecDepth 100000 in
set_option maxHeartbeats 3200000 in
theorem add_any {w : World} {b : Nat} {A : Wd} (hA : OkW A) (hb : w.heap[b]? = some (.cells (wdA A) 62)) (d : Int) : Calls Tryd.prog 75 #[.pointer (some ⟨b, 0, none⟩), .int .i64 d] w fun e w' => (∃ v, e = .returned v) ∧ Fr (fun q => q = b) w w' ∧ ∃ A', OkW A' ∧ w'.heap[b]? = some (.cells (wdA A') 62) ∧ sS A' = (if 0 ≤ d ∧ d < 512 then pbit (sS A) d.toNat true else sS A) := by
  by_cases hd : 0 ≤ d ∧ d < 512
  · obtain ⟨n, rfl⟩ : ∃ n : Nat, d = (n : Int) := ⟨d.toNat, by omega⟩
    rw [if_pos hd]
    obtain ⟨k, hk⟩ : ∃ k, Hid (n / 64 = k) := ⟨_, hide rfl⟩
    obtain ⟨j, hj⟩ : ∃ j, Hid (n % 64 = j) := ⟨_, hide rfl⟩
    have hk8 : k < 8 := by have := unhide hk; omega
    have hj6 : j < 64 := by have := unhide hj; omega
    have k0 : (n : Int) / 64 = (k : Int) := by have := unhide hk; omega
    have j0 : (n : Int) % 64 = (j : Int) := by have := unhide hj; omega
    have hn : (n : Int).toNat = n := by simp
    have k1 : IntKind.i64.wrap (k : Int) = (k : Int) := by unfold IntKind.wrap; simp [IntKind.bits, IntKind.signed]; omega
    have k2 : ¬ (8 : Int) ≤ (k : Int) := by omega
    have k3 : (k : Int) < 8 := by omega
    have j1 : (n : Int).tmod 64 = (j : Int) := by rw [Int.tmod_eq_emod_of_nonneg (by omega)]; exact j0
    rw [hn]
    clear hn
    go_enter Tryd.func75, Tryd.ntmps75
    go_wp2_with fail
    refine (register_yes n (by omega) _).mono ?_
    rintro e w1 ⟨rfl, m, hw1⟩
    have HB1 : Hid (w1.heap[b]? = some (.cells (wdA A) 62)) := by rw [hw1]; exact hb
    have HF1 : Hid (Fr (fun q => q = b) w w1) := by rw [hw1]; exact Fr.drewN m
    clear hw1 hb
    go_wp2_with fail
    have HS0 : Hid ((fun V : World => V.heap[b]? = some (.cells (wdA A) 62)) w1) := unhide HB1
    have HS : Hid ((fun V : World => V.heap[b]? = some (.cells (wdA A) 62)) w1.drew) := unhide HB1
    refine wp_region_later (S := (fun V : World => V.heap[b]? = some (.cells (wdA A) 62))) (m := 12) (by kernel_rfl) ?_
    refine wpAnyL_takeU (i := 0) (oi := _) (v := .pointer (some ⟨b, 0, none⟩)) rfl (by kernel_rfl) (by kernel_rfl) (by kernel_rfl) (by decide) (fun _ _ _ h => h) (Or.inl ⟨by rfl, (by intro w' _; go_simp)⟩) (fun _ => unhide HS) ?_
    go_simp
    refine wpAnyL_takeU (i := 1) (oi := _) (v := .int .i64 (n : Int)) rfl (by kernel_rfl) (by kernel_rfl) (by kernel_rfl) (by decide) (fun _ _ _ h => h) (Or.inl ⟨by rfl, (by intro w' _; go_simp)⟩) (fun _ => unhide HS) ?_
    go_simp
    refine wpAnyL_takeU (i := 2) (oi := _) (v := .int .i64 (k : Int)) rfl (by kernel_rfl) (by kernel_rfl) (by kernel_rfl) (by decide) (fun _ _ _ h => h) (Or.inl ⟨by rfl, (by intro w' _; go_simp)⟩) (fun _ => unhide HS) ?_
    go_simp
    refine wpAnyL_takeU (i := 3) (oi := _) (v := .pointer (some ⟨b, 0, none⟩)) rfl (by kernel_rfl) (by kernel_rfl) (by kernel_rfl) (by decide) (fun _ _ _ h => h) (Or.inl ⟨by rfl, (by intro w' _; go_simp)⟩) (fun _ => unhide HS) ?_
    go_simp
    refine wpAnyL_takeU (i := 4) (oi := _) (v := .pointer (some ⟨b, k, none⟩)) rfl (by kernel_rfl) (by kernel_rfl) (by kernel_rfl) (by decide) (fun _ _ _ h => h) (Or.inl ⟨by rfl, (by intro w' _; go_simp)⟩) (fun _ => unhide HS) ?_
    go_simp
    refine wpAnyL_take (i := 5) (oi := _) (om := _) (v := .int .u64 (A k : Int)) rfl rfl (by kernel_rfl) (by kernel_rfl) (by kernel_rfl) (by kernel_rfl) (by decide) (by kernel_rfl) (fun _ _ _ h => h) (Or.inl ⟨by rfl, (by intro w' hSw; have c0 : w'.cell? ⟨b, k, none⟩ = some (.int .u64 (A k : Int)) := ((blk_cells hSw).1 k).trans (wd_at hk8); go_simp)⟩) (unhide HS) ?_
    go_simp
    refine wpAnyL_takeU (i := 6) (oi := _) (v := .int .i64 (n : Int)) rfl (by kernel_rfl) (by kernel_rfl) (by kernel_rfl) (by decide) (fun _ _ _ h => h) (Or.inl ⟨by rfl, (by intro w' _; go_simp)⟩) (fun _ => unhide HS) ?_
    go_simp
    refine wpAnyL_takeU (i := 7) (oi := _) (v := .int .i64 ((n : Int) % 64)) rfl (by kernel_rfl) (by kernel_rfl) (by kernel_rfl) (by decide) (fun _ _ _ h => h) (Or.inl ⟨by rfl, (by intro w' _; go_simp)⟩) (fun _ => unhide HS) ?_
    go_simp
    refine wpAnyL_takeU (i := 8) (oi := _) (v := .int .u64 (IntKind.u64.wrap (2 ^ j))) rfl (by kernel_rfl) (by kernel_rfl) (by kernel_rfl) (by decide) (fun _ _ _ h => h) (Or.inl ⟨by rfl, (by intro w' _; go_simp)⟩) (fun _ => unhide HS) ?_
    go_simp
    refine wpAnyL_takeU (i := 9) (oi := _) (v := .int .u64 (bits .or .u64 (A k : Int) (IntKind.u64.wrap (2 ^ j)))) rfl (by kernel_rfl) (by kernel_rfl) (by kernel_rfl) (by decide) (fun _ _ _ h => h) (Or.inl ⟨by rfl, (by intro w' _; go_simp)⟩) (fun _ => unhide HS) ?_
    go_simp
    refine wpAnyL_takeU (i := 10) (oi := _) (v := .pointer (some ⟨b, 0, none⟩)) rfl (by kernel_rfl) (by kernel_rfl) (by kernel_rfl) (by decide) (fun _ _ _ h => h) (Or.inl ⟨by rfl, (by intro w' _; go_simp)⟩) (fun _ => unhide HS) ?_
    go_simp
    refine wpAnyL_takeU (i := 11) (oi := _) (v := .pointer (some ⟨b, k, none⟩)) rfl (by kernel_rfl) (by kernel_rfl) (by kernel_rfl) (by decide) (fun _ _ _ h => h) (Or.inl ⟨by rfl, (by intro w' _; go_simp)⟩) (fun _ => unhide HS) ?_
    go_simp
    have c0 : w1.drew.cell? ⟨b, k, none⟩ = some (.int .u64 (A k : Int)) := ((blk_cells (unhide HS)).1 k).trans (wd_at hk8)
    have f0 := (blk_cells (unhide HS)).2.1 k
    refine wpAnyL_one (i := 12) (o := _) (by kernel_rfl) rfl (fun K hK => ?_)
    go_simp
    refine hK _ _ (fun q => absurd q (by decide)) ?_
    refine wpAnyL_done (by kernel_rfl) ?_ _
    go_wp2_with fail
    go_end0
    have e := bitsOr (hA k) (one_lt hj6)
    rw [shl1 hj6, e]
    have HB2 := unhide HB1
    refine ⟨⟨_, rfl⟩, (unhide HF1).trans (Fr.setCell (S := fun q => q = b) (Fr.refl _ w1) ⟨b, k, none⟩ (.inr rfl) _).drew, putW A k (A k ||| 2 ^ j), hA.put k ?_, ?_, ?_⟩
    · exact Nat.or_lt_two_pow (n := 64) (hA k) (one_lt hj6)
    · have q := setCell_block (w := w1) (o := k) HB2 (.int .u64 ((A k ||| 2 ^ j : Nat) : Int))
      rw [wd_set hk8] at q
      exact q
    · have q := sS_or (A := A) (d := n) (by omega)
      rw [unhide hk, unhide hj] at q
      exact q
  · rw [if_neg hd]
    go_enter Tryd.func75, Tryd.ntmps75
    go_wp2_with fail
    refine (register_no d hd _).mono ?_
    rintro e w1 ⟨rfl, m, rfl⟩
    go_wp2_with fail
    go_end0
    exact ⟨⟨_, rfl⟩, Fr.drewN m, A, hA, hb, rfl⟩
set_option maxRecDepth 100000 in
set_option maxHeartbeats 3200000 in
theorem remove_any {w : World} {b : Nat} {A : Wd} (hA : OkW A) (hb : w.heap[b]? = some (.cells (wdA A) 62)) (d : Int) : Calls Tryd.prog 64 #[.pointer (some ⟨b, 0, none⟩), .int .i64 d] w fun e w' => (∃ v, e = .returned v) ∧ Fr (fun q => q = b) w w' ∧ ∃ A', OkW A' ∧ w'.heap[b]? = some (.cells (wdA A') 62) ∧ sS A' = (if 0 ≤ d ∧ d < 512 then pbit (sS A) d.toNat false else sS A) := by
  by_cases hd : 0 ≤ d ∧ d < 512
  · obtain ⟨n, rfl⟩ : ∃ n : Nat, d = (n : Int) := ⟨d.toNat, by omega⟩
    rw [if_pos hd]
    obtain ⟨k, hk⟩ : ∃ k, Hid (n / 64 = k) := ⟨_, hide rfl⟩
    obtain ⟨j, hj⟩ : ∃ j, Hid (n % 64 = j) := ⟨_, hide rfl⟩
    have hk8 : k < 8 := by have := unhide hk; omega
    have hj6 : j < 64 := by have := unhide hj; omega
    have k0 : (n : Int) / 64 = (k : Int) := by have := unhide hk; omega
    have j0 : (n : Int) % 64 = (j : Int) := by have := unhide hj; omega
    have hn : (n : Int).toNat = n := by simp
    have k1 : IntKind.i64.wrap (k : Int) = (k : Int) := by unfold IntKind.wrap; simp [IntKind.bits, IntKind.signed]; omega
    have k2 : ¬ (8 : Int) ≤ (k : Int) := by omega
    have k3 : (k : Int) < 8 := by omega
    have j1 : (n : Int).tmod 64 = (j : Int) := by rw [Int.tmod_eq_emod_of_nonneg (by omega)]; exact j0
    rw [hn]
    clear hn
    go_enter Tryd.func64, Tryd.ntmps64
    go_wp2_with fail
    refine (register_yes n (by omega) _).mono ?_
    rintro e w1 ⟨rfl, m, hw1⟩
    have HB1 : Hid (w1.heap[b]? = some (.cells (wdA A) 62)) := by rw [hw1]; exact hb
    have HF1 : Hid (Fr (fun q => q = b) w w1) := by rw [hw1]; exact Fr.drewN m
    clear hw1 hb
    go_wp2_with fail
    have HS0 : Hid ((fun V : World => V.heap[b]? = some (.cells (wdA A) 62)) w1) := unhide HB1
    have HS : Hid ((fun V : World => V.heap[b]? = some (.cells (wdA A) 62)) w1.drew) := unhide HB1
    refine wp_region_later (S := (fun V : World => V.heap[b]? = some (.cells (wdA A) 62))) (m := 12) (by kernel_rfl) ?_
    refine wpAnyL_takeU (i := 0) (oi := _) (v := .pointer (some ⟨b, 0, none⟩)) rfl (by kernel_rfl) (by kernel_rfl) (by kernel_rfl) (by decide) (fun _ _ _ h => h) (Or.inl ⟨by rfl, (by intro w' _; go_simp)⟩) (fun _ => unhide HS) ?_
    go_simp
    refine wpAnyL_takeU (i := 1) (oi := _) (v := .int .i64 (n : Int)) rfl (by kernel_rfl) (by kernel_rfl) (by kernel_rfl) (by decide) (fun _ _ _ h => h) (Or.inl ⟨by rfl, (by intro w' _; go_simp)⟩) (fun _ => unhide HS) ?_
    go_simp
    refine wpAnyL_takeU (i := 2) (oi := _) (v := .int .i64 (k : Int)) rfl (by kernel_rfl) (by kernel_rfl) (by kernel_rfl) (by decide) (fun _ _ _ h => h) (Or.inl ⟨by rfl, (by intro w' _; go_simp)⟩) (fun _ => unhide HS) ?_
    go_simp
    refine wpAnyL_takeU (i := 3) (oi := _) (v := .pointer (some ⟨b, 0, none⟩)) rfl (by kernel_rfl) (by kernel_rfl) (by kernel_rfl) (by decide) (fun _ _ _ h => h) (Or.inl ⟨by rfl, (by intro w' _; go_simp)⟩) (fun _ => unhide HS) ?_
    go_simp
    refine wpAnyL_takeU (i := 4) (oi := _) (v := .pointer (some ⟨b, k, none⟩)) rfl (by kernel_rfl) (by kernel_rfl) (by kernel_rfl) (by decide) (fun _ _ _ h => h) (Or.inl ⟨by rfl, (by intro w' _; go_simp)⟩) (fun _ => unhide HS) ?_
    go_simp
    refine wpAnyL_take (i := 5) (oi := _) (om := _) (v := .int .u64 (A k : Int)) rfl rfl (by kernel_rfl) (by kernel_rfl) (by kernel_rfl) (by kernel_rfl) (by decide) (by kernel_rfl) (fun _ _ _ h => h) (Or.inl ⟨by rfl, (by intro w' hSw; have c0 : w'.cell? ⟨b, k, none⟩ = some (.int .u64 (A k : Int)) := ((blk_cells hSw).1 k).trans (wd_at hk8); go_simp)⟩) (unhide HS) ?_
    go_simp
    refine wpAnyL_takeU (i := 6) (oi := _) (v := .int .i64 (n : Int)) rfl (by kernel_rfl) (by kernel_rfl) (by kernel_rfl) (by decide) (fun _ _ _ h => h) (Or.inl ⟨by rfl, (by intro w' _; go_simp)⟩) (fun _ => unhide HS) ?_
    go_simp
    refine wpAnyL_takeU (i := 7) (oi := _) (v := .int .i64 ((n : Int) % 64)) rfl (by kernel_rfl) (by kernel_rfl) (by kernel_rfl) (by decide) (fun _ _ _ h => h) (Or.inl ⟨by rfl, (by intro w' _; go_simp)⟩) (fun _ => unhide HS) ?_
    go_simp
    refine wpAnyL_takeU (i := 8) (oi := _) (v := .int .u64 (IntKind.u64.wrap (2 ^ j))) rfl (by kernel_rfl) (by kernel_rfl) (by kernel_rfl) (by decide) (fun _ _ _ h => h) (Or.inl ⟨by rfl, (by intro w' _; go_simp)⟩) (fun _ => unhide HS) ?_
    go_simp
    refine wpAnyL_takeU (i := 9) (oi := _) (v := .int .u64 (bits .andNot .u64 (A k : Int) (IntKind.u64.wrap (2 ^ j)))) rfl (by kernel_rfl) (by kernel_rfl) (by kernel_rfl) (by decide) (fun _ _ _ h => h) (Or.inl ⟨by rfl, (by intro w' _; go_simp)⟩) (fun _ => unhide HS) ?_
    go_simp
    refine wpAnyL_takeU (i := 10) (oi := _) (v := .pointer (some ⟨b, 0, none⟩)) rfl (by kernel_rfl) (by kernel_rfl) (by kernel_rfl) (by decide) (fun _ _ _ h => h) (Or.inl ⟨by rfl, (by intro w' _; go_simp)⟩) (fun _ => unhide HS) ?_
    go_simp
    refine wpAnyL_takeU (i := 11) (oi := _) (v := .pointer (some ⟨b, k, none⟩)) rfl (by kernel_rfl) (by kernel_rfl) (by kernel_rfl) (by decide) (fun _ _ _ h => h) (Or.inl ⟨by rfl, (by intro w' _; go_simp)⟩) (fun _ => unhide HS) ?_
    go_simp
    have c0 : w1.drew.cell? ⟨b, k, none⟩ = some (.int .u64 (A k : Int)) := ((blk_cells (unhide HS)).1 k).trans (wd_at hk8)
    have f0 := (blk_cells (unhide HS)).2.1 k
    refine wpAnyL_one (i := 12) (o := _) (by kernel_rfl) rfl (fun K hK => ?_)
    go_simp
    refine hK _ _ (fun q => absurd q (by decide)) ?_
    refine wpAnyL_done (by kernel_rfl) ?_ _
    go_wp2_with fail
    go_end0
    have e := bitsNot (hA k) (one_lt hj6)
    rw [shl1 hj6, e]
    have HB2 := unhide HB1
    refine ⟨⟨_, rfl⟩, (unhide HF1).trans (Fr.setCell (S := fun q => q = b) (Fr.refl _ w1) ⟨b, k, none⟩ (.inr rfl) _).drew, putW A k (andNot (A k) (2 ^ j)), hA.put k ?_, ?_, ?_⟩
    · exact Nat.lt_of_le_of_lt Nat.and_le_left (hA k)
    · have q := setCell_block (w := w1) (o := k) HB2 (.int .u64 ((andNot (A k) (2 ^ j) : Nat) : Int))
      rw [wd_set hk8] at q
      exact q
    · have q := sS_not hA (d := n) (by omega)
      rw [unhide hk, unhide hj] at q
      exact q
  · rw [if_neg hd]
    go_enter Tryd.func64, Tryd.ntmps64
    go_wp2_with fail
    refine (register_no d hd _).mono ?_
    rintro e w1 ⟨rfl, m, rfl⟩
    go_wp2_with fail
    go_end0
    exact ⟨⟨_, rfl⟩, Fr.drewN m, A, hA, hb, rfl⟩

set_option linter.unusedVariables false
set_option linter.unusedSimpArgs false
/-- A set in a box of its own. -/
def SB (w : World) (b : Nat) (S : Rset) : Prop := ∃ A, OkW A ∧ w.heap[b]? = some (.cells (wdA A) 62) ∧ sS A = S
theorem SB.lt {w : World} {b : Nat} {S : Rset} (h : SB w b S) : b < w.heap.size := by
  obtain ⟨A, _, h, _⟩ := h
  exact (Array.getElem?_eq_some_iff.1 h).1
theorem SB.fr {w w' : World} {b : Nat} {S : Rset} {Z : Nat → Prop} (h : SB w b S) (f : Fr Z w w') (hz : ¬ Z b) : SB w' b S := by
  have hl := h.lt
  obtain ⟨A, h1, h2, h3⟩ := h
  exact ⟨A, h1, (f.block b hl hz).trans h2, h3⟩
theorem SB.below {w w' : World} {b : Nat} {S : Rset} (h : SB w b S) (f : Below w.heap.size w w') : SB w' b S := h.fr (Fr.of_below (S := fun _ => False) f) (fun q => q)
theorem SB.sup {w : World} {b : Nat} {S : Rset} (h : SB w b S) : Sup S := by
  obtain ⟨A, _, _, rfl⟩ := h
  exact sS_sup A
/-- What a call that turns a set leaves behind. -/
def SetP (b : Nat) (S : Rset) (w : World) (e : Ending) (w' : World) : Prop := (∃ v, e = .returned v) ∧ Fr (fun q => q = b) w w' ∧ SB w' b S
def addS (S : Rset) (d : Int) : Rset := if 0 ≤ d ∧ d < 512 then pbit S d.toNat true else S
def remS (S : Rset) (d : Int) : Rset := if 0 ≤ d ∧ d < 512 then pbit S d.toNat false else S
theorem addS_any {w : World} {b : Nat} {S : Rset} (h : SB w b S) (d : Int) : Calls Tryd.prog 75 #[.pointer (some ⟨b, 0, none⟩), .int .i64 d] w (SetP b (addS S d) w) := by
  obtain ⟨A, h1, h2, rfl⟩ := h
  refine (add_any h1 h2 d).mono ?_
  rintro e w' ⟨q1, q2, A', q3, q4, q5⟩
  exact ⟨q1, q2, A', q3, q4, q5⟩
theorem remS_any {w : World} {b : Nat} {S : Rset} (h : SB w b S) (d : Int) : Calls Tryd.prog 64 #[.pointer (some ⟨b, 0, none⟩), .int .i64 d] w (SetP b (remS S d) w) := by
  obtain ⟨A, h1, h2, rfl⟩ := h
  refine (remove_any h1 h2 d).mono ?_
  rintro e w' ⟨q1, q2, A', q3, q4, q5⟩
  exact ⟨q1, q2, A', q3, q4, q5⟩
theorem hasS_any {w : World} {b : Nat} {S : Rset} (h : SB w b S) (d : Int) : Calls Tryd.prog 72 #[.pointer (some ⟨b, 0, none⟩), .int .i64 d] w fun e w' => e = .returned (.bool (inS S d)) ∧ ∃ m, w' = w.drewN m := by
  obtain ⟨A, h1, h2, rfl⟩ := h
  exact has_any h1 h2 d
def askS (S : Rset) (l : List Op) : Rset := l.foldl (fun s o => if o.k = 0 then addS s o.n else s) S
theorem askS_push (S : Rset) (l : List Op) (o : Op) : askS S (l ++ [o]) = if o.k = 0 then addS (askS S l) o.n else askS S l := by simp [askS, List.foldl_append]
theorem addS_at (S : Rset) (d : Int) (r : Nat) : addS S d r = (S r || (decide (r < 512) && decide (d = (r : Int)))) := by
  unfold addS pbit
  by_cases h : 0 ≤ d ∧ d < 512
  · rw [if_pos h]
    by_cases e : r = d.toNat
    · have e2 : d = (r : Int) := by omega
      have e3 : r < 512 := by omega
      simp [e2, e3]
    · have e2 : ¬ d = (r : Int) := by omega
      simp [e, e2]
  · rw [if_neg h]
    by_cases hr : r < 512
    · have e2 : ¬ d = (r : Int) := by omega
      simp [e2]
    · simp [hr]
theorem askS_at (l : List Op) : ∀ (S : Rset) (r : Nat), askS S l r = (S r || (decide (r < 512) && askL l r)) := by
  induction l with
  | nil => intro S r; simp [askS, askL]
  | cons o l ih =>
    intro S r
    have h := ih (if o.k = 0 then addS S o.n else S) r
    simp only [askS, List.foldl_cons] at h ⊢
    rw [h]
    by_cases q : o.k = 0
    · rw [if_pos q, addS_at]
      simp only [askL, List.any_cons, q, true_and]
      cases S r <;> cases decide (r < 512) <;> simp
    · rw [if_neg q]
      simp [askL, q]
set_option maxRecDepth 100000 in
set_option maxHeartbeats 3200000 in
theorem ask_any {w : World} {b : Nat} {S : Rset} {D : Nat → Prop} {l : List Op} {v : Value} (h : OpV D w l v) (hD : ∀ k, D k → k ≠ b) (hb : SB w b S) :
    Calls Tryd.prog 65 #[.pointer (some ⟨b, 0, none⟩), v] w (SetP b (askS S l) w) := by
  obtain ⟨h1, h2⟩ := h
  obtain ⟨a, c, rfl, hc1, hc2⟩ := h1.shape
  obtain ⟨L, hL⟩ : ∃ L, Hid (l.length = L) := ⟨_, hide rfl⟩
  have H1 := hide h1
  have H2 := hide h2
  rw [unhide hL] at hc1 ⊢
  unfold maxLen at hc2
  have HG0 : Hid (Fr (fun q => q = b) w w ∧ SB w b (askS S (l.take 0))) := ⟨Fr.refl _ w, by simpa [askS] using hb⟩
  clear h1 h2 hb
  go_enter Tryd.func65, Tryd.ntmps65
  go_wp2_with fail
  go_loopg [8] L (fun gg t8 wr => ∃ i : Nat, Hid (i + gg = L) ∧ t8 = .int .i64 (i : Int) ∧ Hid (Fr (fun q => q = b) w wr ∧ SB wr b (askS S (l.take i))))
  case atStart => exact ⟨0, by unfold Hid; omega, rfl, HG0⟩
  case round =>
    clear HG0
    obtain ⟨i, hi, rfl, hG⟩ := hrel
    by_cases hlt : i < L
    · obtain ⟨o, ho⟩ : ∃ o, l[i]? = some o := ⟨_, List.getElem?_eq_getElem (by rw [unhide hL]; exact hlt)⟩
      obtain ⟨g, off, cap, e, _, _, hg, hcell⟩ := (unhide H1).elem zO ho
      have hgb : g ≠ b := hD g (unhide H2 (by rw [unhide hL]; omega) g (by rw [e]; rfl))
      rw [unhide hL] at e
      cases e
      have k0 : wr.cell? ⟨g, off + i * 2, none⟩ = some (.int .i64 o.k) := ((unhide hG).1.cell (a := ⟨g, off + i * 2 + 0, none⟩) hg hgb).trans (hcell 0 _ rfl)
      have k1 : wr.cell? ⟨g, off + i * 2 + 1, none⟩ = some (.int .i64 o.n) := ((unhide hG).1.cell (a := ⟨g, off + i * 2 + 1, none⟩) hg hgb).trans (hcell 1 _ rfl)
      have kl : g < wr.heap.size := Nat.lt_of_lt_of_le hg (unhide hG).1.size
      have i0 : (0 : Int) ≤ (i : Int) := by omega
      have i1 : (i : Int) < (L : Int) := by omega
      have HT : Hid (askS S (l.take (i + 1)) = if o.k = 0 then addS (askS S (l.take i)) o.n else askS S (l.take i)) := by unfold Hid; rw [take_push ho, askS_push]
      have hbl := (unhide hG).2.lt
      obtain ⟨W, hW⟩ : ∃ W, Hid (wr.alloc (.cells #[.int .i64 o.k, .int .i64 o.n] 70) = W) := ⟨_, hide rfl⟩
      have HW : Hid (Below wr.heap.size wr W) := by rw [← unhide hW]; exact box1n wr _
      have HWb := hide ((unhide hG).2.below (unhide HW))
      have HF := hide ((unhide hG).1.trans (Fr.of_below (S := fun q => q = b) (unhide HW)))
      have hn := heap_alloc_new wr (.cells #[.int .i64 o.k, .int .i64 o.n] 70)
      rw [unhide hW] at hn
      have n0 := (blk_cells hn).1 0
      have n1 := (blk_cells hn).1 1
      simp at n0 n1
      have hW' := unhide hW
      have HC := hide (addS_any (unhide HWb) o.n)
      clear hcell hn
      by_cases hk : o.k = 0
      · have hk0 : (o.k == 0) = true := by simp [hk]
        have hkd : decide (o.k = 0) = true := by simp [hk]
        rw [if_pos hk] at HT
        have HK := hide hk
        clear hk
        go_wp2_with fail
        refine (unhide HC).mono ?_
        rintro e w2 ⟨⟨v, rfl⟩, q2, q3⟩
        have HG2 : Hid (Fr (fun q => q = b) w w2 ∧ SB w2 b (askS S (l.take (i + 1)))) := ⟨(unhide HF).trans q2, by rw [unhide HT]; exact q3⟩
        clear q2 q3 HC HF HWb HW hW' hG HT
        go_wp2_with fail
        go_roundg (gk - 1)
        case measure => have := unhide hi; omega
        case rel => exact ⟨i + 1, by have := unhide hi; unfold Hid; omega, by go_num, HG2⟩
      · have hk0 : (o.k == 0) = false := by simp [hk]
        have hkd : decide (o.k = 0) = false := by simp [hk]
        rw [if_neg hk] at HT
        have HG2 : Hid (Fr (fun q => q = b) w W ∧ SB W b (askS S (l.take (i + 1)))) := ⟨unhide HF, by rw [unhide HT]; exact unhide HWb⟩
        clear HC HF HWb HW hG HT
        go_wp2_with fail
        go_roundg (gk - 1)
        case measure => have := unhide hi; omega
        case rel => exact ⟨i + 1, by have := unhide hi; unfold Hid; omega, by go_num, HG2⟩
    · have hiL : i = L := by have := unhide hi; omega
      subst hiL
      rw [List.take_of_length_le (by rw [unhide hL]; exact Nat.le_refl _)] at hG
      have i1 : ¬ (i : Int) < (i : Int) := by omega
      go_wp2_with fail
      go_end0
      exact ⟨⟨_, rfl⟩, (unhide hG).1, (unhide hG).2⟩

set_option linter.unusedVariables false
set_option linter.unusedSimpArgs false
set_option maxRecDepth 100000 in
set_option maxHeartbeats 3200000 in
theorem idle_any {w : World} {b : Nat} {S : Rset} {x : RIn} {op code dst n pc need : Int} {aa ea : Option Addr} {al ac el ec : Nat} (hb : SB w b S) (h1 : op = x.op) (h2 : dst = x.dst) :
    Calls Tryd.prog 52 #[.pointer (some ⟨b, 0, none⟩), .agg #[.int .i64 op, .int .i64 code, .int .i64 dst, .slice aa al ac, .int .i64 n, .int .i64 pc, .int .i64 need, .slice ea el ec]] w fun e w' => e = .returned (.bool (idle S x)) ∧ Below w.heap.size w w' := by
  obtain ⟨W, hW⟩ : ∃ W, Hid (w.alloc (.cells #[.int .i64 op, .int .i64 code, .int .i64 dst, .slice aa al ac, .int .i64 n, .int .i64 pc, .int .i64 need, .slice ea el ec] 51) = W) := ⟨_, hide rfl⟩
  have HW : Hid (Below w.heap.size w W) := by rw [← unhide hW]; exact box1n w _
  have hn := heap_alloc_new w (.cells #[.int .i64 op, .int .i64 code, .int .i64 dst, .slice aa al ac, .int .i64 n, .int .i64 pc, .int .i64 need, .slice ea el ec] 51)
  rw [unhide hW] at hn
  have c0 := (blk_cells hn).1 0
  have c2 := (blk_cells hn).1 2
  have cl := (blk_cells hn).2.2
  simp at c0 c2
  have HC := hide (hasS_any (hb.below (unhide HW)) dst)
  have hW' := unhide hW
  clear hn hb
  by_cases o1 : op = 1
  · have hi : idle S x = !inS S dst := by simp [idle, quiet, ← h1, ← h2, o1]
    rw [hi]
    subst o1
    clear h1 h2 hi
    go_enter Tryd.func52, Tryd.ntmps52
    go_wp2_with fail
    refine (unhide HC).mono ?_
    rintro e w2 ⟨rfl, m, hm⟩
    have HB : Hid (Below w.heap.size w w2) := by rw [hm]; exact (unhide HW).trans ((bl_drewN W m).mono (unhide HW).size)
    clear hm HC HW
    go_wp2_with fail
    go_ret
    exact ⟨rfl, unhide HB⟩
  · by_cases o2 : op = 2
    · have hi : idle S x = !inS S dst := by simp [idle, quiet, ← h1, ← h2, o2]
      rw [hi]
      subst o2
      clear h1 h2 hi o1
      go_enter Tryd.func52, Tryd.ntmps52
      go_wp2_with fail
      refine (unhide HC).mono ?_
      rintro e w2 ⟨rfl, m, hm⟩
      have HB : Hid (Below w.heap.size w w2) := by rw [hm]; exact (unhide HW).trans ((bl_drewN W m).mono (unhide HW).size)
      clear hm HC HW
      go_wp2_with fail
      go_ret
      exact ⟨rfl, unhide HB⟩
    · have hi : idle S x = false := by simp [idle, quiet, ← h1, o1, o2]
      rw [hi]
      have e1 : (op == 1) = false := by simp [o1]
      have e2 : (op == 2) = false := by simp [o2]
      have e3 : decide (op = 1) = false := by simp [o1]
      have e4 : decide (op = 2) = false := by simp [o2]
      clear h1 h2 hi HC o1 o2
      go_enter Tryd.func52, Tryd.ntmps52
      go_wp2_with fail
      go_ret
      exact ⟨rfl, unhide HW⟩
def exS (S : Rset) (l : List Sh) : Rset := l.foldl (fun s f => askS s f.sl) S
theorem exS_push (S : Rset) (l : List Sh) (f : Sh) : exS S (l ++ [f]) = askS (exS S l) f.sl := by simp [exS, List.foldl_append]
theorem exS_at (l : List Sh) : ∀ (S : Rset) (r : Nat), exS S l r = (S r || (decide (r < 512) && l.any (fun f => askL f.sl r))) := by
  induction l with
  | nil => intro S r; simp [exS]
  | cons f l ih =>
    intro S r
    have h := ih (askS S f.sl) r
    simp only [exS, List.foldl_cons] at h ⊢
    rw [h, askS_at, List.any_cons]
    cases S r <;> cases decide (r < 512) <;> simp
theorem remS_at {S : Rset} (hS : Sup S) (d : Int) (r : Nat) : remS S d r = (S r && decide (d ≠ (r : Int))) := by
  unfold remS pbit
  by_cases h : 0 ≤ d ∧ d < 512
  · rw [if_pos h]
    by_cases e : r = d.toNat
    · have e2 : d = (r : Int) := by omega
      simp [e2]
    · have e2 : d ≠ (r : Int) := by omega
      simp [e, e2]
  · rw [if_neg h]
    by_cases hr : r < 512
    · have e2 : d ≠ (r : Int) := by omega
      simp [e2]
    · rw [hS r (by omega)]; simp
theorem backS_ex {S : Rset} (hS : Sup S) {x : RIn} (hi : idle S x = false) : backS S x = exS (askS (remS S x.dst) x.args) x.ex := by
  funext r
  unfold backS
  rw [if_neg (by rw [hi]; decide), exS_at, askS_at, remS_at hS]
  unfold askE
  cases decide (r < 512) <;> cases askL x.args r <;> cases x.ex.any (fun s => askL s.sl r) <;> simp
set_option maxRecDepth 100000 in
set_option maxHeartbeats 6400000 in
theorem back_any {w : World} {b : Nat} {S : Rset} {D : Nat → Prop} {x : RIn} {q : InR} (h : InP D w x q) (hD : ∀ k, D k → k ≠ b) (hb : SB w b S) :
    Calls Tryd.prog 45 #[.pointer (some ⟨b, 0, none⟩), inV q] w (SetP b (backS S x) w) := by
  obtain ⟨op, code, dst, av, n, pc, need, ev⟩ := q
  obtain ⟨h1, h2, h3, h4, h5, h6, h7, h8⟩ := h
  simp only at h1 h2 h3 h4 h5 h6 h7 h8
  subst h1 h2 h3 h4 h5 h6
  unfold inV
  simp only
  obtain ⟨aa, ac, rfl, _, _⟩ := h7.1.shape
  obtain ⟨ea, ec, rfl, he1, he2⟩ := NV.shape h8
  obtain ⟨AL, hAL⟩ : ∃ z, Hid (x.args.length = z) := ⟨_, hide rfl⟩
  obtain ⟨EL, hEL⟩ : ∃ z, Hid (x.ex.length = z) := ⟨_, hide rfl⟩
  obtain ⟨W, hW⟩ : ∃ W, Hid (w.alloc (.cells #[.int .i64 x.op, .int .i64 x.code, .int .i64 x.dst, .slice aa x.args.length ac, .int .i64 x.n, .int .i64 x.pc, .int .i64 x.need, .slice ea x.ex.length ec] 51) = W) := ⟨_, hide rfl⟩
  have HW : Hid (Below w.heap.size w W) := by rw [← unhide hW]; exact box1n w _
  have hn := heap_alloc_new w (.cells #[.int .i64 x.op, .int .i64 x.code, .int .i64 x.dst, .slice aa x.args.length ac, .int .i64 x.n, .int .i64 x.pc, .int .i64 x.need, .slice ea x.ex.length ec] 51)
  rw [unhide hW] at hn
  have hnb : w.heap.size ≠ b := by have := hb.lt; omega
  have hsup := hb.sup
  have HBX := hide hn
  have c0 := (blk_cells hn).1 0
  have c1 := (blk_cells hn).1 1
  have c2 := (blk_cells hn).1 2
  have c3 := (blk_cells hn).1 3
  have c4 := (blk_cells hn).1 4
  have c5 := (blk_cells hn).1 5
  have c6 := (blk_cells hn).1 6
  have c7 := (blk_cells hn).1 7
  have cl := (blk_cells hn).2.2
  simp at c0 c1 c2 c3 c4 c5 c6 c7
  have HC := hide (idle_any (x := x) (op := x.op) (code := x.code) (dst := x.dst) (n := x.n) (pc := x.pc) (need := x.need) (aa := aa) (ea := ea) (al := x.args.length) (ac := ac) (el := x.ex.length) (ec := ec) (hb.below (unhide HW)) rfl rfl)
  have H7 := hide h7
  have H8 := hide h8
  have HSB := hide (hb.below (unhide HW))
  rw [unhide hAL] at c3 HC HBX ⊢
  rw [unhide hEL] at c7 HC HBX he1 ⊢
  rw [unhide hAL, unhide hEL] at hW
  have hW' := unhide hW
  have HSP := hide hsup
  unfold maxLen at he2
  have hww : w.heap.size < W.heap.size := cl
  clear h7 h8 hb hn hsup
  cases hid : idle S x with
  | true =>
    have hbk : backS S x = S := by funext r; unfold backS; rw [if_pos hid]
    rw [hid] at HC
    rw [hbk]
    clear hbk hid
    go_enter Tryd.func45, Tryd.ntmps45
    go_wp2_with fail
    refine (unhide HC).mono ?_
    rintro e w2 ⟨rfl, b2⟩
    have HF := hide ((Fr.of_below (S := fun q => q = b) (unhide HW)).trans (Fr.of_below b2))
    have HS2 := hide ((unhide HSB).below b2)
    clear b2 HC
    go_wp2_with fail
    first | go_ret | go_end0
    exact ⟨⟨_, rfl⟩, unhide HF, unhide HS2⟩
  | false =>
    have hbk := backS_ex (unhide HSP) hid
    rw [hid] at HC
    rw [hbk]
    clear hbk hid
    go_enter Tryd.func45, Tryd.ntmps45
    go_wp2_with fail
    refine (unhide HC).mono ?_
    rintro e w2 ⟨rfl, b2⟩
    have HF2 := hide ((Fr.of_below (S := fun q => q = b) (unhide HW)).trans (Fr.of_below b2))
    have HS2 := hide ((unhide HSB).below b2)
    have hbx := (b2.block _ hww).trans (unhide HBX)
    have HBX2 := hide hbx
    have d2 := (blk_cells hbx).1 2
    have dl := (blk_cells hbx).2.2
    simp at d2
    have HC2 := hide (remS_any (unhide HS2) x.dst)
    clear b2 HC c0 c1 c2 c3 c4 c5 c6 c7 cl hbx hW' hW HBX HSB HW hww
    go_wp2_with fail
    refine (unhide HC2).mono ?_
    rintro e w3 ⟨⟨v3, rfl⟩, f3, s3⟩
    have HF3 := hide ((unhide HF2).trans f3)
    have hbx := (f3.block _ dl hnb).trans (unhide HBX2)
    have HBX3 := hide hbx
    have e3 := (blk_cells hbx).1 3
    have el := (blk_cells hbx).2.2
    simp at e3
    have HC3 := hide (ask_any (D := fun k => k ≠ b) (OpV.mv _ (fun k => k ≠ b) (fun q => q = b) _ _ _ _ (unhide H7) (unhide HF3) (fun k _ hk => ⟨hD k hk, hD k hk⟩)) (fun k hk => hk) s3)
    rw [unhide hAL] at HC3
    clear f3 s3 hbx d2 dl HC2 HF2 HS2 HBX2
    go_wp2_with fail
    refine (unhide HC3).mono ?_
    rintro e w4 ⟨⟨v4, rfl⟩, f4, s4⟩
    have HF4 := hide ((unhide HF3).trans f4)
    have hbx := (f4.block _ el hnb).trans (unhide HBX3)
    have g7 := (blk_cells hbx).1 7
    have gl := (blk_cells hbx).2.2
    simp at g7
    have HG0 : Hid (Fr (fun q => q = b) w w4 ∧ SB w4 b (exS (askS (remS S x.dst) x.args) (x.ex.take 0))) := ⟨unhide HF4, by simpa [exS] using s4⟩
    clear f4 s4 hbx e3 el HC3 HF3 HBX3 HF4
    go_wp2_with fail
    go_loopg [20] EL (fun gg t20 wr => ∃ i : Nat, Hid (i + gg = EL) ∧ t20 = .int .i64 (i : Int) ∧ Hid (Fr (fun q => q = b) w wr ∧ SB wr b (exS (askS (remS S x.dst) x.args) (x.ex.take i))))
    case atStart => exact ⟨0, by unfold Hid; omega, rfl, HG0⟩
    case round =>
      clear HG0 g7 gl
      obtain ⟨i, hi, rfl, hG⟩ := hrel
      by_cases hlt : i < EL
      · obtain ⟨f, hf⟩ : ∃ f, x.ex[i]? = some f := ⟨_, List.getElem?_eq_getElem (by rw [unhide hEL]; exact hlt)⟩
        obtain ⟨g, off, cap, r, e, hg, hDg, hP, hcell⟩ := NV.at zSh (unhide H8) hf
        have hgb : g ≠ b := hD g hDg
        rw [unhide hEL] at e
        cases e
        obtain ⟨rfn, rpc, rv⟩ := r
        obtain ⟨p1, p2, p3⟩ := hP
        simp only at p1 p2 p3
        subst p1 p2
        obtain ⟨sa, sc, rfl, _, _⟩ := p3.1.shape
        have k0 : wr.cell? ⟨g, off + i * 3, none⟩ = some (.int .i64 f.fn) := ((unhide hG).1.cell (a := ⟨g, off + i * 3 + 0, none⟩) hg hgb).trans (hcell 0 _ rfl)
        have k1 : wr.cell? ⟨g, off + i * 3 + 1, none⟩ = some (.int .i64 f.pc) := ((unhide hG).1.cell (a := ⟨g, off + i * 3 + 1, none⟩) hg hgb).trans (hcell 1 _ rfl)
        have k2 : wr.cell? ⟨g, off + i * 3 + 2, none⟩ = some (.slice sa f.sl.length sc) := ((unhide hG).1.cell (a := ⟨g, off + i * 3 + 2, none⟩) hg hgb).trans (hcell 2 _ rfl)
        have kl : g < wr.heap.size := Nat.lt_of_lt_of_le hg (unhide hG).1.size
        have i0 : (0 : Int) ≤ (i : Int) := by omega
        have i1 : (i : Int) < (EL : Int) := by omega
        obtain ⟨SL, hSL⟩ : ∃ z, Hid (f.sl.length = z) := ⟨_, hide rfl⟩
        have HT : Hid (exS (askS (remS S x.dst) x.args) (x.ex.take (i + 1)) = askS (exS (askS (remS S x.dst) x.args) (x.ex.take i)) f.sl) := by unfold Hid; rw [take_push hf, exS_push]
        obtain ⟨W, hW⟩ : ∃ W, Hid (wr.alloc (.cells #[.int .i64 f.fn, .int .i64 f.pc, .slice sa f.sl.length sc] 73) = W) := ⟨_, hide rfl⟩
        have HW : Hid (Below wr.heap.size wr W) := by rw [← unhide hW]; exact box1n wr _
        have HWb := hide ((unhide hG).2.below (unhide HW))
        have HF := hide ((unhide hG).1.trans (Fr.of_below (S := fun q => q = b) (unhide HW)))
        have hn := heap_alloc_new wr (.cells #[.int .i64 f.fn, .int .i64 f.pc, .slice sa f.sl.length sc] 73)
        rw [unhide hW] at hn
        have n2 := (blk_cells hn).1 2
        have nl := (blk_cells hn).2.2
        simp at n2
        have HC := hide (ask_any (D := fun k => k ≠ b) (OpV.mv _ (fun k => k ≠ b) (fun q => q = b) _ _ _ _ p3 (unhide HF) (fun k _ hk => ⟨hD k hk, hD k hk⟩)) (fun k hk => hk) (unhide HWb))
        rw [unhide hSL] at k2 n2 HC hW
        have hW' := unhide hW
        clear hcell hn p3 hf
        go_wp2_with fail
        refine (unhide HC).mono ?_
        rintro e w5 ⟨⟨v5, rfl⟩, f5, s5⟩
        have HG2 : Hid (Fr (fun q => q = b) w w5 ∧ SB w5 b (exS (askS (remS S x.dst) x.args) (x.ex.take (i + 1)))) := ⟨(unhide HF).trans f5, by rw [unhide HT]; exact s5⟩
        clear f5 s5 HC HF HWb HW hW' hG HT
        go_wp2_with fail
        go_roundg (gk - 1)
        case measure => have := unhide hi; omega
        case rel => exact ⟨i + 1, by have := unhide hi; unfold Hid; omega, by go_num, HG2⟩
      · have hiL : i = EL := by have := unhide hi; omega
        subst hiL
        rw [List.take_of_length_le (by rw [unhide hEL]; exact Nat.le_refl _)] at hG
        have i1 : ¬ (i : Int) < (i : Int) := by omega
        go_wp2_with fail
        go_end0
        exact ⟨⟨_, rfl⟩, (unhide hG).1, (unhide hG).2⟩
end Go.Proofs.YtpbdmbmafjkinaaDoor
