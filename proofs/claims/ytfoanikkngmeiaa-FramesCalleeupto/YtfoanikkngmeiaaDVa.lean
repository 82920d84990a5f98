/-
  Values: are they right? The document's.
-/
import Derived.Test.YtfoanikkngmeiaaLLd
namespace Go.Proofs.Ytfoanikkngmeiaa
open Go.RowKit
set_option linter.unusedVariables false
set_option linter.unusedSimpArgs false
set_option maxRecDepth 100000 in
set_option maxHeartbeats 1600000 in
theorem names_in {w : World} {lv : Value} {os : List Ob} (h : OsV w lv os) (hN : os.length ≤ 1048576) (k n : Int) (hk : k = 6 ∨ k = 7 ∨ k = 8 ∨ k = 9) :
    Calls Try.prog 44 #[lv, .agg #[.int .i64 k, .int .i64 n]] w fun e w' => e = .returned (.bool (vRb (kinds os) (k, n))) ∧ Below w.heap.size w w' := by
  rw [vRb_in _ _ _ (by omega) (by omega)]
  obtain ⟨a, cap, rfl, hlc, hcm⟩ := h.shape
  unfold maxLen at hcm
  obtain ⟨L, hL⟩ : ∃ L, Hid (os.length = L) := ⟨_, hide rfl⟩
  have HO := hide h
  rw [unhide hL] at hN hlc HO ⊢
  clear h
  have HB := hide (fun o (n : Nat) => bl_past (bl_box w o) (bl_drewN (w.alloc o) n))
  by_cases h0 : n < 0
  · have hr : (decide (0 ≤ n) && decide ((kinds os)[n.toNat]? = some k)) = false := by simp; omega
    rw [hr]
    have d0 : decide (n < 0) = true := decide_eq_true (by omega)
    have HB0 := hide (bl_box w)
    clear HO hr
    rcases hk with rfl | rfl | rfl | rfl <;>
    · go_enter Try.func44, Try.ntmps44
      go_wp2_with fail
      go_ret
      exact ⟨rfl, unhide HB0 _⟩
  by_cases h1 : (L : Int) ≤ n
  · have hr : (decide (0 ≤ n) && decide ((kinds os)[n.toNat]? = some k)) = false := by
      rw [List.getElem?_eq_none (by unfold kinds; rw [List.length_map, unhide hL]; omega)]; simp
    rw [hr]
    have d0 : decide (n < 0) = false := decide_eq_false (by omega)
    have d1 : decide (n ≥ (L : Int)) = true := decide_eq_true (by omega)
    have HB0 := hide (bl_box w)
    clear HO hr
    rcases hk with rfl | rfl | rfl | rfl <;>
    · go_enter Try.func44, Try.ntmps44
      go_wp2_with fail
      go_ret
      exact ⟨rfl, unhide HB0 _⟩
  · obtain ⟨i, rfl⟩ : ∃ i : Nat, n = (i : Int) := ⟨n.toNat, by omega⟩
    have hil : i < os.length := by rw [unhide hL]; omega
    obtain ⟨f, hf⟩ : ∃ f, os[i]? = some f := ⟨_, List.getElem?_eq_getElem hil⟩
    obtain ⟨b, off, ia, ic, ka, kc, ea, hb, k0, -⟩ := (unhide HO).six hf
    cases ea
    have hr : (decide (0 ≤ (i : Int)) && decide ((kinds os)[(i : Int).toNat]? = some k)) = (f.kind == k) := by
      rw [Int.toNat_natCast]
      unfold kinds
      rw [List.getElem?_map, hf]
      by_cases e : f.kind = k
      · simp [e]
      · simp [e]
    rw [hr]
    have i0 : (0 : Int) ≤ (i : Int) := by omega
    have i1 : (i : Int) < (L : Int) := by omega
    have d0 : decide ((i : Int) < 0) = false := decide_eq_false (by omega)
    have d1 : decide ((i : Int) ≥ (L : Int)) = false := decide_eq_false (by omega)
    clear HO hr hf h0 h1
    obtain ⟨fk, hfk⟩ : ∃ fk, fk = f.kind := ⟨_, rfl⟩
    rw [← hfk] at k0 ⊢
    clear hfk
    rcases hk with rfl | rfl | rfl | rfl <;>
    · go_enter Try.func44, Try.ntmps44
      go_wp2_with fail
      go_quiet (fail)
      go_wp2_with fail
      go_ret
      exact ⟨by simp, unhide HB _ _⟩
set_option maxRecDepth 100000 in
set_option maxHeartbeats 1600000 in
theorem names_out {w : World} {lv : Value} {os : List Ob} (h : OsV w lv os) (k n : Int) (hk : ¬ (6 ≤ k ∧ k ≤ 9)) :
    Calls Try.prog 44 #[lv, .agg #[.int .i64 k, .int .i64 n]] w fun e w' => e = .returned (.bool false) ∧ Below w.heap.size w w' := by
  obtain ⟨a, cap, rfl, hlc, hcm⟩ := h.shape
  have HB := hide (bl_box w)
  clear h
  by_cases h6 : k < 6
  · have d0 : decide (k < 6) = true := decide_eq_true h6
    clear hk
    go_enter Try.func44, Try.ntmps44
    go_wp2_with fail
    go_ret
    exact ⟨rfl, unhide HB _⟩
  · have d0 : decide (k < 6) = false := decide_eq_false h6
    have d1 : decide (k > 9) = true := decide_eq_true (by omega)
    clear hk
    go_enter Try.func44, Try.ntmps44
    go_wp2_with fail
    go_ret
    exact ⟨rfl, unhide HB _⟩
set_option maxRecDepth 100000 in
set_option maxHeartbeats 1600000 in
theorem right_any {w : World} {lv : Value} {os : List Ob} (h : OsV w lv os) (hN : os.length ≤ 1048576) (k n : Int) :
    Calls Try.prog 40 #[lv, .agg #[.int .i64 k, .int .i64 n]] w fun e w' => e = .returned (.bool (vRb (kinds os) (k, n))) ∧ Below w.heap.size w w' := by
  have HB := hide (bl_box w)
  by_cases hk : k = 6 ∨ k = 7 ∨ k = 8 ∨ k = 9
  · have HC : Hid (∀ O, Calls Try.prog 44 #[lv, .agg #[.int .i64 k, .int .i64 n]] (w.alloc O) fun e w' => e = .returned (.bool (vRb (kinds os) (k, n))) ∧ Below (w.alloc O).heap.size (w.alloc O) w') := fun O => names_in (h.below (bl_box w O) (Nat.le_refl _)) hN k n hk
    obtain ⟨a, cap, rfl, hlc, hcm⟩ := h.shape
    generalize vRb (kinds os) (k, n) = VV at *
    clear h
    rcases hk with rfl | rfl | rfl | rfl <;>
    · go_enter Try.func40, Try.ntmps40
      go_wp2_with fail
      refine (unhide HC _).mono ?_
      rintro e w1 ⟨rfl, b1⟩
      have HB1 := hide (bl_past (unhide HB _) b1)
      clear b1
      go_wp2_with fail
      go_ret
      exact ⟨rfl, unhide HB1⟩
  obtain ⟨h6, h7, h8, h9⟩ : ¬ k = 6 ∧ ¬ k = 7 ∧ ¬ k = 8 ∧ ¬ k = 9 := ⟨fun e => hk (by omega), fun e => hk (by omega), fun e => hk (by omega), fun e => hk (by omega)⟩
  have e9 : ¬ (6 ≤ k ∧ k ≤ 9) := fun ⟨x, y⟩ => hk (by omega)
  have HC : Hid (∀ O, Calls Try.prog 44 #[lv, .agg #[.int .i64 k, .int .i64 n]] (w.alloc O) fun e w' => e = .returned (.bool false) ∧ Below (w.alloc O).heap.size (w.alloc O) w') := fun O => names_out (h.below (bl_box w O) (Nat.le_refl _)) k n e9
  obtain ⟨a, cap, rfl, hlc, hcm⟩ := h.shape
  unfold vRb
  simp only
  rw [if_neg e9]
  clear h hk e9 h6 h7 h8 h9
  by_cases h0 : k = 0
  · subst h0
    go_enter Try.func40, Try.ntmps40
    go_wp2_with fail
    go_ret
    exact ⟨by simp, unhide HB _⟩
  by_cases h1 : k = 1
  · subst h1
    go_enter Try.func40, Try.ntmps40
    go_wp2_with fail
    all_goals go_ret
    all_goals refine ⟨?_, unhide HB _⟩
    all_goals simp_all
  by_cases h2 : k = 2
  · subst h2
    go_enter Try.func40, Try.ntmps40
    go_wp2_with fail
    go_ret
    exact ⟨by simp, unhide HB _⟩
  by_cases h3 : k = 3
  · subst h3
    rw [if_neg (by decide), if_neg (by decide), if_neg (by decide), if_pos rfl]
    unfold rlU
    go_enter Try.func40, Try.ntmps40
    go_wp2_with fail
    all_goals go_ret
    all_goals refine ⟨?_, unhide HB _⟩
    all_goals simp_all
  by_cases h4 : k = 4
  · subst h4
    go_enter Try.func40, Try.ntmps40
    go_wp2_with fail
    go_ret
    exact ⟨by simp, unhide HB _⟩
  by_cases h5 : k = 5
  · subst h5
    go_enter Try.func40, Try.ntmps40
    go_wp2_with fail
    go_ret
    exact ⟨by simp, unhide HB _⟩
  · have q0 : (k == 0) = false := by simpa using h0
    have q1 : (k == 1) = false := by simpa using h1
    have q2 : (k == 2) = false := by simpa using h2
    have q3 : (k == 3) = false := by simpa using h3
    have q4 : (k == 4) = false := by simpa using h4
    have q5 : (k == 5) = false := by simpa using h5
    have hr : ¬ (k = 4 ∨ k = 5) := by omega
    rw [if_neg h0, if_neg h1, if_neg h2, if_neg h3, if_neg hr]
    clear h0 h1 h2 h3 h4 h5 hr
    go_enter Try.func40, Try.ntmps40
    go_wp2_with fail
    refine (unhide HC _).mono ?_
    rintro e w1 ⟨rfl, b1⟩
    have HB1 := hide (bl_past (unhide HB _) b1)
    clear b1
    go_wp2_with fail
    go_ret
    exact ⟨rfl, unhide HB1⟩
end Go.Proofs.Ytfoanikkngmeiaa
