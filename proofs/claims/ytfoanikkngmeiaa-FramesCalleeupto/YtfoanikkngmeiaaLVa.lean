/-
  Values: are they right? The program's.
-/
import Derived.Test.YtfoanikkngmeiaaLPu
import Derived.Deep.RegionHeld3
namespace Go.Proofs.Ytfoanikkngmeiaa
open Go.RowKit
set_option linter.unusedVariables false
set_option linter.unusedSimpArgs false
set_option maxRecDepth 100000 in
set_option maxHeartbeats 800000 in
theorem real_any (w : World) (n : Int) : Calls Try.prog 43 #[.int .u64 n] w fun e w' => e = .returned (.bool (rlU n)) ∧ w' = w := by
  have ha := andNot_sign n
  unfold rlU
  generalize bits .and .u64 n 9223372036854775807 = B at *
  go_enter Try.func43, Try.ntmps43
  go_wp2_with fail
  all_goals go_ret
  all_goals refine ⟨?_, rfl⟩
  all_goals simp_all
set_option maxRecDepth 100000 in
set_option maxHeartbeats 800000 in
theorem noChan_any (w : World) (k : Int) (iv kv : Value) (fn cp : Int) (sh : Bool) (hi : iv.oneCell' = true) (hk : kv.oneCell' = true) : Calls Try.prog 34 #[.agg #[.int .i64 k, iv, kv, .int .i64 fn, .int .i64 cp, .bool sh]] w fun e w' => e = .returned (.bool ((cp == 0) && !sh)) ∧ Below w.heap.size w w' := by
  go_enter Try.func34, Try.ntmps34
  go_wp2_with fail
  all_goals go_ret
  all_goals refine ⟨?_, (Below.refl _ _).alloc (Nat.le_refl _) _⟩
  all_goals simp_all
theorem bl_box (w : World) (o : Obj) : Below w.heap.size w (w.alloc o) := (Below.refl _ _).alloc (Nat.le_refl _) _
theorem vRb_in (ks : List Int) (k n : Int) (h6 : 6 ≤ k) (h9 : k ≤ 9) : vRb ks (k, n) = (decide (0 ≤ n) && decide (ks[n.toNat]? = some k)) := by
  unfold vRb
  rw [if_neg (by simp; omega), if_neg (by simp; omega), if_neg (by simp; omega), if_neg (by simp; omega), if_neg (by simp; omega), if_pos (by simp; omega)]
set_option maxRecDepth 100000 in
set_option maxHeartbeats 1600000 in
theorem value_in {w : World} {lv : Value} {os : List Ob} (h : OsV w lv os) (hN : os.length ≤ 1048576) (k n : Int) (hk : k = 6 ∨ k = 7 ∨ k = 8 ∨ k = 9) :
    Calls Try.prog 36 #[.agg #[.int .i64 k, .int .i64 n], lv] w fun e w' => e = .returned (.bool (vRb (kinds os) (k, n))) ∧ Below w.heap.size w w' := by
  rw [vRb_in _ _ _ (by omega) (by omega)]
  obtain ⟨a, cap, rfl, hlc, hcm⟩ := h.shape
  unfold maxLen at hcm
  obtain ⟨L, hL⟩ : ∃ L, Hid (os.length = L) := ⟨_, hide rfl⟩
  have HO := hide h
  rw [unhide hL] at hN hlc HO ⊢
  clear h
  have HB := hide (fun o (n : Nat) => bl_past (bl_box w o) (bl_drewN (w.alloc o) n))
  by_cases h0 : n < 0
  · have hr : (decide (0 ≤ n) && decide ((kinds os)[n.toNat]? = some k)) = false := by simp; omega
    rw [hr]
    have d0 : decide (0 ≤ n) = false := decide_eq_false (by omega)
    clear HO hr
    rcases hk with rfl | rfl | rfl | rfl <;>
    · go_enter Try.func36, Try.ntmps36
      go_wp2_with fail
      go_quiet (fail)
      go_wp2_with fail
      go_ret
      exact ⟨rfl, unhide HB _ _⟩
  by_cases h1 : (L : Int) ≤ n
  · have hr : (decide (0 ≤ n) && decide ((kinds os)[n.toNat]? = some k)) = false := by
      rw [List.getElem?_eq_none (by unfold kinds; rw [List.length_map, unhide hL]; omega)]; simp
    rw [hr]
    have d0 : decide (0 ≤ n) = true := decide_eq_true (by omega)
    have d1 : decide (n < (L : Int)) = false := decide_eq_false (by omega)
    clear HO hr
    rcases hk with rfl | rfl | rfl | rfl <;>
    · go_enter Try.func36, Try.ntmps36
      go_wp2_with fail
      go_quiet (fail)
      go_wp2_with fail
      go_ret
      exact ⟨rfl, unhide HB _ _⟩
  · obtain ⟨i, rfl⟩ : ∃ i : Nat, n = (i : Int) := ⟨n.toNat, by omega⟩
    have hil : i < os.length := by rw [unhide hL]; omega
    obtain ⟨f, hf⟩ : ∃ f, os[i]? = some f := ⟨_, List.getElem?_eq_getElem hil⟩
    obtain ⟨b, off, ia, ic, ka, kc, ea, hb, k0, -⟩ := (unhide HO).six hf
    cases ea
    have hr : (decide (0 ≤ (i : Int)) && decide ((kinds os)[(i : Int).toNat]? = some k)) = (f.kind == k) := by
      rw [Int.toNat_natCast]
      unfold kinds
      rw [List.getElem?_map, hf]
      by_cases e : f.kind = k
      · simp [e]
      · simp [e]
    rw [hr]
    have i0 : (0 : Int) ≤ (i : Int) := by omega
    have i1 : (i : Int) < (L : Int) := by omega
    have d0 : decide (0 ≤ (i : Int)) = true := decide_eq_true (by omega)
    have d1 : decide ((i : Int) < (L : Int)) = true := decide_eq_true (by omega)
    clear HO hr hf h0 h1
    obtain ⟨fk, hfk⟩ : ∃ fk, fk = f.kind := ⟨_, rfl⟩
    rw [← hfk] at k0 ⊢
    clear hfk
    rcases hk with rfl | rfl | rfl | rfl <;>
    · go_enter Try.func36, Try.ntmps36
      go_wp2_with fail
      go_quiet (fail)
      go_wp2_with fail
      go_ret
      exact ⟨by simp, unhide HB _ _⟩
set_option maxRecDepth 100000 in
set_option maxHeartbeats 1600000 in
theorem value_any {w : World} {lv : Value} {os : List Ob} (h : OsV w lv os) (hN : os.length ≤ 1048576) (k n : Int) :
    Calls Try.prog 36 #[.agg #[.int .i64 k, .int .i64 n], lv] w fun e w' => e = .returned (.bool (vRb (kinds os) (k, n))) ∧ Below w.heap.size w w' := by
  by_cases hk : k = 6 ∨ k = 7 ∨ k = 8 ∨ k = 9
  · exact value_in h hN k n hk
  have hB := hide (bl_box w)
  obtain ⟨h6, h7, h8, h9⟩ : ¬ k = 6 ∧ ¬ k = 7 ∧ ¬ k = 8 ∧ ¬ k = 9 := ⟨fun e => hk (by omega), fun e => hk (by omega), fun e => hk (by omega), fun e => hk (by omega)⟩
  have q6 : (k == 6) = false := by simpa using h6
  have q7 : (k == 7) = false := by simpa using h7
  have q8 : (k == 8) = false := by simpa using h8
  have q9 : (k == 9) = false := by simpa using h9
  have e9 : ¬ (6 ≤ k ∧ k ≤ 9) := fun ⟨x, y⟩ => hk (by omega)
  unfold vRb
  simp only
  rw [if_neg e9]
  obtain ⟨R, hR⟩ : ∃ R, Hid (rlU (IntKind.u64.wrap n) = R) := ⟨_, hide rfl⟩
  rw [unhide hR]
  have HR : Hid (∀ W, Calls Try.prog 43 #[.int .u64 (IntKind.u64.wrap n)] W fun e w' => e = .returned (.bool R) ∧ w' = W) := fun W => by
    have := real_any W (IntKind.u64.wrap n)
    rw [unhide hR] at this
    exact this
  clear h hk e9 h6 h7 h8 h9
  by_cases h0 : k = 0
  · subst h0
    go_enter Try.func36, Try.ntmps36
    go_wp2_with fail
    go_ret
    exact ⟨by simp, unhide hB _⟩
  by_cases h1 : k = 1
  · subst h1
    go_enter Try.func36, Try.ntmps36
    go_wp2_with fail
    all_goals go_ret
    all_goals refine ⟨?_, unhide hB _⟩
    all_goals simp_all
  by_cases h2 : k = 2
  · subst h2
    go_enter Try.func36, Try.ntmps36
    go_wp2_with fail
    go_ret
    exact ⟨by simp, unhide hB _⟩
  by_cases h3 : k = 3
  · subst h3
    go_enter Try.func36, Try.ntmps36
    go_wp2_with fail
    refine (unhide HR _).mono ?_
    rintro e w' ⟨rfl, rfl⟩
    go_wp2_with fail
    go_ret
    exact ⟨by simp, unhide hB _⟩
  by_cases h4 : k = 4
  · subst h4
    go_enter Try.func36, Try.ntmps36
    go_wp2_with fail
    go_ret
    exact ⟨by simp, unhide hB _⟩
  by_cases h5 : k = 5
  · subst h5
    go_enter Try.func36, Try.ntmps36
    go_wp2_with fail
    go_ret
    exact ⟨by simp, unhide hB _⟩
  · have q0 : (k == 0) = false := by simpa using h0
    have q1 : (k == 1) = false := by simpa using h1
    have q2 : (k == 2) = false := by simpa using h2
    have q3 : (k == 3) = false := by simpa using h3
    have q4 : (k == 4) = false := by simpa using h4
    have q5 : (k == 5) = false := by simpa using h5
    have hr : ¬ (k = 4 ∨ k = 5) := by omega
    rw [if_neg h0, if_neg h1, if_neg h2, if_neg h3, if_neg hr]
    clear h0 h1 h2 h3 h4 h5 hr
    go_enter Try.func36, Try.ntmps36
    go_wp2_with fail
    go_ret
    exact ⟨rfl, unhide hB _⟩
end Go.Proofs.Ytfoanikkngmeiaa
