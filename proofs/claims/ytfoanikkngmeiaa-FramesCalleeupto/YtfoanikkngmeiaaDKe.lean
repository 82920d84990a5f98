/-
  Keys: the document's find and rightKeys; New.
-/
import Derived.Test.YtfoanikkngmeiaaLLd
namespace Go.Proofs.Ytfoanikkngmeiaa
open Go.RowKit
set_option linter.unusedVariables false
set_option linter.unusedSimpArgs false
/-- What find answers: a place, or -1. -/
def fdI (l : List Int) (key : Int) : Int := match l.findIdx? (· == key) with
  | some i => (i : Int)
  | none => -1
theorem fdI_some {l : List Int} {key : Int} {i : Nat} (h : l[i]? = some key) (hj : ∀ j, j < i → l[j]? ≠ some key) : fdI l key = (i : Int) := by
  obtain ⟨hi, e⟩ := List.getElem?_eq_some_iff.1 h
  have : l.findIdx? (· == key) = some i := by
    rw [List.findIdx?_eq_some_iff_getElem]
    refine ⟨hi, by simp [e], fun j hji q => ?_⟩
    refine hj j hji ?_
    rw [List.getElem?_eq_getElem (by omega)]
    simpa using q
  unfold fdI
  rw [this]
theorem fdI_none {l : List Int} {key : Int} (h : ¬ key ∈ l) : fdI l key = -1 := by
  have : l.findIdx? (· == key) = none := by
    rw [List.findIdx?_eq_none_iff]
    intro x hx
    simp only [beq_eq_false_iff_ne, ne_eq]
    intro e
    exact h (e ▸ hx)
  unfold fdI
  rw [this]
theorem fdI_mem (l : List Int) (key : Int) : (key ∈ l ∧ 0 ≤ fdI l key) ∨ (¬ key ∈ l ∧ fdI l key = -1) := by
  by_cases h : key ∈ l
  · refine .inl ⟨h, ?_⟩
    unfold fdI
    cases e : l.findIdx? (· == key) with
    | some i => simp
    | none =>
      rw [List.findIdx?_eq_none_iff] at e
      have := e key h
      simp at this
  · exact .inr ⟨h, fdI_none h⟩
theorem fdI_lt (l : List Int) (key : Int) (hN : l.length ≤ 1048576) : fdI l key < 9223372036854775808 := by
  unfold fdI
  cases e : l.findIdx? (· == key) with
  | some i =>
    rw [List.findIdx?_eq_some_iff_getElem] at e
    obtain ⟨h, _⟩ := e
    simp only
    omega
  | none => simp
set_option maxRecDepth 100000 in
set_option maxHeartbeats 1600000 in
theorem find_any {w : World} {kv : Value} {l : List Int} (h : Rx w 1 kv l.length (flt enL l)) (hN : l.length ≤ 1048576) (key : Int) : Calls Try.prog 45 #[kv, .int .i64 key] w fun e w' => e = .returned (.int .i64 (fdI l key)) ∧ w' = w := by
  have HC := hide (fun i p (hp : l[i]? = some p) => h.elem zL hp)
  obtain ⟨a, cap, rfl, hlc, hcm⟩ := h.shape
  unfold maxLen at hcm
  clear h
  obtain ⟨L, hL⟩ : ∃ L, Hid (l.length = L) := ⟨_, hide rfl⟩
  rw [unhide hL] at hN hlc HC ⊢
  go_enter Try.func45, Try.ntmps45
  go_wp2_with fail
  go_loopg [5] L (fun gg t5 wr => ∃ (i : Nat), Hid (i + gg = L) ∧ t5 = .int .i64 (i : Int) ∧ wr = w ∧ Hid (∀ j, j < i → l[j]? ≠ some key))
  case atStart => exact ⟨0, by unfold Hid; omega, rfl, rfl, fun j hj => by omega⟩
  case round =>
    obtain ⟨i, hi, rfl, e, hU⟩ := hrel
    subst e
    by_cases hlt : i < L
    · have hil : i < l.length := by rw [unhide hL]; exact hlt
      obtain ⟨p, hp⟩ : ∃ p, l[i]? = some p := ⟨_, List.getElem?_eq_getElem hil⟩
      obtain ⟨b, off, _, e, _, _, hb, c⟩ := unhide HC i p hp
      cases e
      have k0 : wr.cell? ⟨b, off + i, none⟩ = some (.int .i64 p) := by have := c 0 _ rfl; rwa [Nat.mul_one, Nat.add_zero] at this
      have i0 : (0 : Int) ≤ (i : Int) := by omega
      have i1 : (i : Int) < (L : Int) := by omega
      have HP := hide hp
      clear c hp
      by_cases hpk : p = key
      · have d0 : (p == key) = true := by simpa using hpk
        have HE := hide (fdI_some (hpk ▸ unhide HP) (unhide hU))
        clear HP hU hpk HC
        go_wp2_with fail
        go_ret
        exact ⟨by rw [unhide HE]; rfl, rfl⟩
      · have d0 : (p == key) = false := by simpa using hpk
        have HU2 : Hid (∀ j, j < i + 1 → l[j]? ≠ some key) := fun j hj e => by
          by_cases q : j = i
          · subst q; rw [unhide HP] at e; cases e; exact hpk rfl
          · exact unhide hU j (by omega) e
        clear HP hU hpk
        go_wp2_with fail
        go_roundg (gk - 1)
        case measure => have := unhide hi; omega
        case rel => exact ⟨i + 1, by have := unhide hi; unfold Hid; omega, by go_num, rfl, HU2⟩
    · have hiL : i = L := by have := unhide hi; omega
      subst hiL
      have HE : Hid (fdI l key = -1) := hide (fdI_none fun e => by
        obtain ⟨j, hj, e2⟩ := List.getElem_of_mem e
        exact unhide hU j (by rw [← unhide hL]; exact hj) (by rw [List.getElem?_eq_getElem hj, e2]))
      clear hU HC
      go_wp2_with fail
      go_ret
      exact ⟨by rw [unhide HE]; rfl, rfl⟩
set_option maxRecDepth 100000 in
set_option maxHeartbeats 800000 in
theorem rnew_any (w : World) (b s : Int) : Calls Try.prog 22 #[.int .i64 b, .int .i64 s] w fun e w' => e = .returned (.pointer (some ⟨w.heap.size, 0, none⟩)) ∧ w' = w.alloc (.cells #[.int .i64 (max b 0), .int .i64 (max s 0), .slice none 0 0] 68) := by
  go_enter Try.func22, Try.ntmps22
  go_wp2
  all_goals go_ret
  all_goals refine ⟨by simp, ?_⟩
  all_goals first | rw [show max b 0 = b by omega] | rw [show max b 0 = 0 by omega]
  all_goals first | rw [show max s 0 = s by omega] | rw [show max s 0 = 0 by omega]
/-- The first keys are right. -/
def kFi (l : List Int) (i : Nat) : Prop := (∀ k ∈ l.take i, 0 ≤ k) ∧ (l.take i).Nodup
theorem kFi.step {l : List Int} {i : Nat} {k : Int} (h : kFi l i) (hk : l[i]? = some k) (h0 : 0 ≤ k) (h1 : ¬ k ∈ l.take i) : kFi l (i + 1) := by
  unfold kFi
  rw [take_push hk]
  refine ⟨fun q hq => ?_, ?_⟩
  · rcases List.mem_append.1 hq with e | e
    · exact h.1 q e
    · simp at e; omega
  · rw [List.nodup_append]
    refine ⟨h.2, by simp, fun a ha b hb e => ?_⟩
    simp at hb
    exact h1 (by rw [← hb, ← e]; exact ha)
theorem kFi.no {l : List Int} {i : Nat} {k : Int} (hk : l[i]? = some k) (h : k < 0 ∨ k ∈ l.take i) : kRb l = false := by
  unfold kRb
  refine Dc_false fun ⟨q1, q2⟩ => ?_
  rcases h with h | h
  · have := q1 k (List.mem_of_getElem? hk); omega
  · obtain ⟨j, hj, e⟩ := List.getElem_of_mem h
    have hjl : j < i ∧ j < l.length := by simp at hj; omega
    have hi := (List.getElem?_eq_some_iff.1 hk)
    obtain ⟨hi, e2⟩ := hi
    rw [List.getElem_take] at e
    unfold List.Nodup at q2
    rw [List.pairwise_iff_getElem] at q2
    exact q2 j i hjl.2 hi hjl.1 (by rw [e, e2])
theorem Rx.upto {w : World} {l : List Int} {a : Option Addr} {cap : Nat} (h : Rx w 1 (.slice a l.length cap) l.length (flt enL l)) {k : Nat} (hk : k ≤ l.length) : Rx w 1 (.slice a k cap) (l.take k).length (flt enL (l.take k)) := by
  have hlt : (l.take k).length = k := by simp; omega
  obtain ⟨h1, a', c', e, h2, h3, h4⟩ := h
  cases e
  refine ⟨by rw [flt_length zL], a, cap, by rw [hlt], by rw [hlt]; omega, h3, fun hp => ?_⟩
  rw [hlt] at hp ⊢
  obtain ⟨g, off, e1, e2, e3⟩ := h4 (by omega)
  refine ⟨g, off, e1, e2, fun j hj => ?_⟩
  rw [e3 j (by omega), ← flt_take zL]
  simp [List.getElem?_take]
  omega
set_option maxRecDepth 100000 in
set_option maxHeartbeats 1600000 in
theorem rkeys_any {w : World} {kv : Value} {l : List Int} (h : Rx w 1 kv l.length (flt enL l)) (hN : l.length ≤ 1048576) :
    Calls Try.prog 41 #[kv] w fun e w' => e = .returned (.bool (decide (l.length ≤ 256) && kRb l)) ∧ Below w.heap.size w w' := by
  have HC := hide (fun i p (hp : l[i]? = some p) => h.elem zL hp)
  have HH := hide h
  obtain ⟨a, cap, rfl, hlc, hcm⟩ := h.shape
  unfold maxLen at hcm
  clear h
  obtain ⟨L, hL⟩ : ∃ L, Hid (l.length = L) := ⟨_, hide rfl⟩
  have HFD : Hid (∀ W k (i : Nat), i ≤ L → Below w.heap.size w W → Calls Try.prog 45 #[.slice a i cap, .int .i64 k] W fun e w' => e = .returned (.int .i64 (fdI (l.take i) k)) ∧ w' = W) := fun W k i hi b => by
    have h1 := ((unhide HH).below b (Nat.le_refl _)).upto (k := i) (by rw [unhide hL]; exact hi)
    have h2 := find_any h1 (by simp; omega) k
    exact h2
  rw [unhide hL] at hN hlc HC HH ⊢
  by_cases h2 : L ≤ 256
  · have d0 : decide ((L : Int) > 256) = false := decide_eq_false (by omega)
    have hr : (decide (L ≤ 256) && kRb l) = kRb l := by simp [h2]
    rw [hr]
    clear hr h2 HH
    go_enter Try.func41, Try.ntmps41
    go_wp2_with fail
    go_loopg [3] L (fun gg t3 wr => ∃ (i : Nat), Hid (i + gg = L) ∧ t3 = .int .i64 (i : Int) ∧ Hid (Below w.heap.size w wr ∧ kFi l i))
    case atStart => exact ⟨0, by unfold Hid; omega, rfl, Below.refl _ _, by unfold kFi; simp⟩
    case round =>
      obtain ⟨i, hi, rfl, hG⟩ := hrel
      by_cases hlt : i < L
      · have hil : i < l.length := by rw [unhide hL]; exact hlt
        obtain ⟨p, hp⟩ : ∃ p, l[i]? = some p := ⟨_, List.getElem?_eq_getElem hil⟩
        obtain ⟨b, off, _, e, _, _, hb, c⟩ := unhide HC i p hp
        cases e
        have k0 : wr.cell? ⟨b, off + i, none⟩ = some (.int .i64 p) := ((unhide hG).1.cell (p := ⟨b, off + i, none⟩) hb).trans (by have := c 0 _ rfl; rwa [Nat.mul_one, Nat.add_zero] at this)
        have hbr := Nat.lt_of_lt_of_le hb (unhide hG).1.size
        have i0 : (0 : Int) ≤ (i : Int) := by omega
        have i1 : (i : Int) < (L : Int) := by omega
        have i2 : (i : Int) ≤ (cap : Int) := by omega
        have i3 : i ≤ cap := by omega
        have HP := hide hp
        have HBN := hide (fun n => bl_past (unhide hG).1 (bl_drewN wr n))
        clear c hp
        by_cases hneg : p < 0
        · have d1 : decide (p < 0) = true := decide_eq_true hneg
          have HR := hide (kFi.no (unhide HP) (.inl hneg))
          clear hG HP hneg HFD
          go_wp2_with fail
          go_quiet (fail)
          go_wp2_with fail
          go_ret
          exact ⟨by rw [unhide HR]; rfl, unhide HBN _⟩
        · have d1 : decide (p < 0) = false := decide_eq_false hneg
          have HF := hide (fun n => unhide HFD (wr.drewN n) p i (by omega) (unhide HBN n))
          obtain ⟨R, hR⟩ : ∃ R, Hid (fdI (l.take i) p = R) := ⟨_, hide rfl⟩
          rw [unhide hR] at HF
          rcases fdI_mem (l.take i) p with ⟨m1, m2⟩ | ⟨m1, m2⟩
          · rw [unhide hR] at m2
            have d2 : decide (R ≥ 0) = true := decide_eq_true (by omega)
            have HR := hide (kFi.no (unhide HP) (.inr m1))
            clear hG HP hneg HFD m1 m2
            go_wp2_with fail
            go_quiet ((go_at_call 45; exact Calls.quiet_of_same (unhide HF _)))
            go_wp2_with fail
            go_ret
            exact ⟨by rw [unhide HR]; rfl, unhide HBN _⟩
          · rw [unhide hR] at m2
            have d2 : decide (R ≥ 0) = false := decide_eq_false (by omega)
            have HG2 := hide ((unhide hG).2.step (unhide HP) (by omega) m1)
            clear hG HP hneg HFD m1 m2
            go_wp2_with fail
            go_quiet ((go_at_call 45; exact Calls.quiet_of_same (unhide HF _)))
            have HB3 := hide (And.intro (unhide HBN nq) (unhide HG2))
            go_wp2_with fail
            go_roundg (gk - 1)
            case measure => have := unhide hi; omega
            case rel => exact ⟨i + 1, by have := unhide hi; unfold Hid; omega, by go_num, HB3⟩
      · have hiL : i = L := by have := unhide hi; omega
        subst hiL
        have HR : Hid (kRb l = true) := by
          have := (unhide hG).2
          unfold kFi at this
          rw [List.take_of_length_le (by rw [unhide hL]; exact Nat.le_refl _)] at this
          unfold kRb
          exact Dc_true this
        have HB := hide (unhide hG).1
        clear hG HC HFD
        go_wp2_with fail
        go_ret
        exact ⟨by rw [unhide HR]; rfl, unhide HB⟩
  · have d0 : decide ((L : Int) > 256) = true := decide_eq_true (by omega)
    have hr : (decide (L ≤ 256) && kRb l) = false := by simp [h2]
    rw [hr]
    clear hr h2 HH HC HFD
    go_enter Try.func41, Try.ntmps41
    go_wp2_with fail
    go_ret
    exact ⟨rfl, Below.refl _ _⟩
end Go.Proofs.Ytfoanikkngmeiaa
