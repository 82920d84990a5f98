/-
  What a value names.
-/
import Derived.Test.YtadgiccfjppnfaaNx
namespace Go.Proofs.Ytadgiccfjppnfaa
open Go.RowKit
set_option linter.unusedVariables false
set_option linter.unusedSimpArgs false
/-- The object that a value names. -/
def nmO (os : List Ob) (v : Int × Int) : Option Ob :=
  if 6 ≤ v.1 ∧ v.1 ≤ 9 ∧ 0 ≤ v.2 ∧ v.2 < os.length then (os[v.2.toNat]?).bind (fun o => if o.kind = v.1 then some o else none) else none
/-- Does a value name something? -/
def nmB (nt : Nat) (os : List Ob) (v : Int × Int) : Bool := if v.1 = 4 then decide (0 ≤ v.2 ∧ v.2 < nt) else (nmO os v).isSome
set_option maxRecDepth 100000 in
set_option maxHeartbeats 6400000 in
theorem names_any {w : World} {pb : Nat} {ta oa : Option Addr} {NT tc NO oc : Nat} {os : List Ob} (c0 : w.cell? ⟨pb, 0, none⟩ = some (.slice ta NT tc)) (c1 : w.cell? ⟨pb, 1, none⟩ = some (.slice oa NO oc)) (hos : OsV w (.slice oa NO oc) os) (hNT : NT ≤ tc ∧ tc ≤ maxLen) (k n : Int) :
    Calls Try.prog 61 #[.pointer (some ⟨pb, 0, none⟩), .agg #[.int .i64 k, .int .i64 n]] w fun e w' => e = .returned (.bool (nmB NT os (k, n))) ∧ Below w.heap.size w w' := by
  have hpb : pb < w.heap.size := World.block_lt_of_cell? _ _ c0
  have HO := hide hos
  obtain ⟨_, _, e0, o1, o2⟩ := hos.shape
  cases e0
  obtain ⟨NO, hNO⟩ : ∃ n, Hid (os.length = n) := ⟨_, hide rfl⟩
  rw [unhide hNO] at c1 HO o1
  obtain ⟨t1, t2⟩ := hNT
  unfold maxLen at o2 t2
  clear hos
  by_cases e4 : k = 4
  · subst e4
    have e : nmB NT os (4, n) = decide (0 ≤ n ∧ n < (NT : Int)) := by simp [nmB]
    rw [e]
    clear e HO
    by_cases h0 : 0 ≤ n
    case neg =>
      rw [decide_eq_false (fun q => h0 q.1)]
      have g0 : decide (0 ≤ n) = false := decide_eq_false h0
      go_enter Try.func61, Try.ntmps61
      go_wp2_with fail
      go_quiet (fail)
      go_wp2_with fail
      go_ret
      exact ⟨rfl, bl_past ((Below.refl _ w).alloc (Nat.le_refl _) _) (bl_drewN _ _)⟩

    by_cases h1 : n < (NT : Int)
    · rw [decide_eq_true ⟨h0, h1⟩]
      have g0 : decide (0 ≤ n) = true := decide_eq_true h0
      have g1 : decide (n < (NT : Int)) = true := decide_eq_true h1
      go_enter Try.func61, Try.ntmps61
      go_wp2_with fail
      go_quiet (fail)
      go_wp2_with fail
      go_ret
      exact ⟨rfl, bl_past ((Below.refl _ w).alloc (Nat.le_refl _) _) (bl_drewN _ _)⟩

    · rw [decide_eq_false (fun q => h1 q.2)]
      have g0 : decide (0 ≤ n) = true := decide_eq_true h0
      have g1 : decide (n < (NT : Int)) = false := decide_eq_false h1
      go_enter Try.func61, Try.ntmps61
      go_wp2_with fail
      go_quiet (fail)
      go_wp2_with fail
      go_ret
      exact ⟨rfl, bl_past ((Below.refl _ w).alloc (Nat.le_refl _) _) (bl_drewN _ _)⟩

  have x4 : (k == 4) = false := by simpa using e4
  by_cases e6 : k = 6
  · subst e6
    by_cases h0 : 0 ≤ n
    case neg =>
      have e : nmB NT os (6, n) = false := by simp [nmB, nmO]; omega
      rw [e]
      have g0 : decide (0 ≤ n) = false := decide_eq_false h0
      clear e HO
      go_enter Try.func61, Try.ntmps61
      go_wp2_with fail
      go_quiet (fail)
      go_wp2_with fail
      go_ret
      exact ⟨rfl, bl_past ((Below.refl _ w).alloc (Nat.le_refl _) _) (bl_drewN _ _)⟩

    have g0 : decide (0 ≤ n) = true := decide_eq_true h0
    by_cases h1 : n < NO
    case neg =>
      have e : nmB NT os (6, n) = false := by
        have := unhide hNO
        simp [nmB, nmO]
        intro _ h
        omega
      rw [e]
      have g1 : decide (n < (NO : Int)) = false := decide_eq_false h1
      clear e HO
      go_enter Try.func61, Try.ntmps61
      go_wp2_with fail
      go_quiet (fail)
      go_wp2_with fail
      go_ret
      exact ⟨rfl, bl_past ((Below.refl _ w).alloc (Nat.le_refl _) _) (bl_drewN _ _)⟩

    obtain ⟨i, rfl⟩ : ∃ i : Nat, n = i := ⟨n.toNat, by omega⟩
    obtain ⟨o, ho⟩ : ∃ o, os[i]? = some o := ⟨_, List.getElem?_eq_getElem (by have := unhide hNO; omega)⟩
    have en : nmB NT os (6, (i : Int)) = decide (o.kind = 6) := by
      have hl : (i : Int) < (os.length : Int) := by have := unhide hNO; omega
      by_cases hk : o.kind = 6 <;> simp [nmB, nmO, hl, ho, hk]
    rw [en]
    obtain ⟨b, off, ia, ic, ka, kc, ea, hb, k0, -, -, -, -, -, -, -, -, -, -, -⟩ := (unhide HO).six ho
    cases ea
    clear en ho HO
    have g1 : decide ((i : Int) < (NO : Int)) = true := decide_eq_true h1
    obtain ⟨kd, its, ys, fn, cp, sh⟩ := o
    simp only at k0 ⊢
    by_cases hk : kd = 6
    · subst hk
      go_enter Try.func61, Try.ntmps61
      go_wp2_with fail
      go_quiet (fail)
      go_wp2_with fail
      go_ret
      exact ⟨rfl, bl_past ((Below.refl _ w).alloc (Nat.le_refl _) _) (bl_drewN _ _)⟩

    · have hk2 : (kd == 6) = false := by simpa using hk
      rw [decide_eq_false hk]
      clear hk
      go_enter Try.func61, Try.ntmps61
      go_wp2_with fail
      go_quiet (fail)
      go_wp2_with fail
      go_ret
      exact ⟨rfl, bl_past ((Below.refl _ w).alloc (Nat.le_refl _) _) (bl_drewN _ _)⟩


  have x6 : (k == 6) = false := by simpa using e6
  by_cases e7 : k = 7
  · subst e7
    by_cases h0 : 0 ≤ n
    case neg =>
      have e : nmB NT os (7, n) = false := by simp [nmB, nmO]; omega
      rw [e]
      have g0 : decide (0 ≤ n) = false := decide_eq_false h0
      clear e HO
      go_enter Try.func61, Try.ntmps61
      go_wp2_with fail
      go_quiet (fail)
      go_wp2_with fail
      go_ret
      exact ⟨rfl, bl_past ((Below.refl _ w).alloc (Nat.le_refl _) _) (bl_drewN _ _)⟩

    have g0 : decide (0 ≤ n) = true := decide_eq_true h0
    by_cases h1 : n < NO
    case neg =>
      have e : nmB NT os (7, n) = false := by
        have := unhide hNO
        simp [nmB, nmO]
        intro _ h
        omega
      rw [e]
      have g1 : decide (n < (NO : Int)) = false := decide_eq_false h1
      clear e HO
      go_enter Try.func61, Try.ntmps61
      go_wp2_with fail
      go_quiet (fail)
      go_wp2_with fail
      go_ret
      exact ⟨rfl, bl_past ((Below.refl _ w).alloc (Nat.le_refl _) _) (bl_drewN _ _)⟩

    obtain ⟨i, rfl⟩ : ∃ i : Nat, n = i := ⟨n.toNat, by omega⟩
    obtain ⟨o, ho⟩ : ∃ o, os[i]? = some o := ⟨_, List.getElem?_eq_getElem (by have := unhide hNO; omega)⟩
    have en : nmB NT os (7, (i : Int)) = decide (o.kind = 7) := by
      have hl : (i : Int) < (os.length : Int) := by have := unhide hNO; omega
      by_cases hk : o.kind = 7 <;> simp [nmB, nmO, hl, ho, hk]
    rw [en]
    obtain ⟨b, off, ia, ic, ka, kc, ea, hb, k0, -, -, -, -, -, -, -, -, -, -, -⟩ := (unhide HO).six ho
    cases ea
    clear en ho HO
    have g1 : decide ((i : Int) < (NO : Int)) = true := decide_eq_true h1
    obtain ⟨kd, its, ys, fn, cp, sh⟩ := o
    simp only at k0 ⊢
    by_cases hk : kd = 7
    · subst hk
      go_enter Try.func61, Try.ntmps61
      go_wp2_with fail
      go_quiet (fail)
      go_wp2_with fail
      go_ret
      exact ⟨rfl, bl_past ((Below.refl _ w).alloc (Nat.le_refl _) _) (bl_drewN _ _)⟩

    · have hk2 : (kd == 7) = false := by simpa using hk
      rw [decide_eq_false hk]
      clear hk
      go_enter Try.func61, Try.ntmps61
      go_wp2_with fail
      go_quiet (fail)
      go_wp2_with fail
      go_ret
      exact ⟨rfl, bl_past ((Below.refl _ w).alloc (Nat.le_refl _) _) (bl_drewN _ _)⟩


  have x7 : (k == 7) = false := by simpa using e7
  by_cases e8 : k = 8
  · subst e8
    by_cases h0 : 0 ≤ n
    case neg =>
      have e : nmB NT os (8, n) = false := by simp [nmB, nmO]; omega
      rw [e]
      have g0 : decide (0 ≤ n) = false := decide_eq_false h0
      clear e HO
      go_enter Try.func61, Try.ntmps61
      go_wp2_with fail
      go_quiet (fail)
      go_wp2_with fail
      go_ret
      exact ⟨rfl, bl_past ((Below.refl _ w).alloc (Nat.le_refl _) _) (bl_drewN _ _)⟩

    have g0 : decide (0 ≤ n) = true := decide_eq_true h0
    by_cases h1 : n < NO
    case neg =>
      have e : nmB NT os (8, n) = false := by
        have := unhide hNO
        simp [nmB, nmO]
        intro _ h
        omega
      rw [e]
      have g1 : decide (n < (NO : Int)) = false := decide_eq_false h1
      clear e HO
      go_enter Try.func61, Try.ntmps61
      go_wp2_with fail
      go_quiet (fail)
      go_wp2_with fail
      go_ret
      exact ⟨rfl, bl_past ((Below.refl _ w).alloc (Nat.le_refl _) _) (bl_drewN _ _)⟩

    obtain ⟨i, rfl⟩ : ∃ i : Nat, n = i := ⟨n.toNat, by omega⟩
    obtain ⟨o, ho⟩ : ∃ o, os[i]? = some o := ⟨_, List.getElem?_eq_getElem (by have := unhide hNO; omega)⟩
    have en : nmB NT os (8, (i : Int)) = decide (o.kind = 8) := by
      have hl : (i : Int) < (os.length : Int) := by have := unhide hNO; omega
      by_cases hk : o.kind = 8 <;> simp [nmB, nmO, hl, ho, hk]
    rw [en]
    obtain ⟨b, off, ia, ic, ka, kc, ea, hb, k0, -, -, -, -, -, -, -, -, -, -, -⟩ := (unhide HO).six ho
    cases ea
    clear en ho HO
    have g1 : decide ((i : Int) < (NO : Int)) = true := decide_eq_true h1
    obtain ⟨kd, its, ys, fn, cp, sh⟩ := o
    simp only at k0 ⊢
    by_cases hk : kd = 8
    · subst hk
      go_enter Try.func61, Try.ntmps61
      go_wp2_with fail
      go_quiet (fail)
      go_wp2_with fail
      go_ret
      exact ⟨rfl, bl_past ((Below.refl _ w).alloc (Nat.le_refl _) _) (bl_drewN _ _)⟩

    · have hk2 : (kd == 8) = false := by simpa using hk
      rw [decide_eq_false hk]
      clear hk
      go_enter Try.func61, Try.ntmps61
      go_wp2_with fail
      go_quiet (fail)
      go_wp2_with fail
      go_ret
      exact ⟨rfl, bl_past ((Below.refl _ w).alloc (Nat.le_refl _) _) (bl_drewN _ _)⟩


  have x8 : (k == 8) = false := by simpa using e8
  by_cases e9 : k = 9
  · subst e9
    by_cases h0 : 0 ≤ n
    case neg =>
      have e : nmB NT os (9, n) = false := by simp [nmB, nmO]; omega
      rw [e]
      have g0 : decide (0 ≤ n) = false := decide_eq_false h0
      clear e HO
      go_enter Try.func61, Try.ntmps61
      go_wp2_with fail
      go_quiet (fail)
      go_wp2_with fail
      go_ret
      exact ⟨rfl, bl_past ((Below.refl _ w).alloc (Nat.le_refl _) _) (bl_drewN _ _)⟩

    have g0 : decide (0 ≤ n) = true := decide_eq_true h0
    by_cases h1 : n < NO
    case neg =>
      have e : nmB NT os (9, n) = false := by
        have := unhide hNO
        simp [nmB, nmO]
        intro _ h
        omega
      rw [e]
      have g1 : decide (n < (NO : Int)) = false := decide_eq_false h1
      clear e HO
      go_enter Try.func61, Try.ntmps61
      go_wp2_with fail
      go_quiet (fail)
      go_wp2_with fail
      go_ret
      exact ⟨rfl, bl_past ((Below.refl _ w).alloc (Nat.le_refl _) _) (bl_drewN _ _)⟩

    obtain ⟨i, rfl⟩ : ∃ i : Nat, n = i := ⟨n.toNat, by omega⟩
    obtain ⟨o, ho⟩ : ∃ o, os[i]? = some o := ⟨_, List.getElem?_eq_getElem (by have := unhide hNO; omega)⟩
    have en : nmB NT os (9, (i : Int)) = decide (o.kind = 9) := by
      have hl : (i : Int) < (os.length : Int) := by have := unhide hNO; omega
      by_cases hk : o.kind = 9 <;> simp [nmB, nmO, hl, ho, hk]
    rw [en]
    obtain ⟨b, off, ia, ic, ka, kc, ea, hb, k0, -, -, -, -, -, -, -, -, -, -, -⟩ := (unhide HO).six ho
    cases ea
    clear en ho HO
    have g1 : decide ((i : Int) < (NO : Int)) = true := decide_eq_true h1
    obtain ⟨kd, its, ys, fn, cp, sh⟩ := o
    simp only at k0 ⊢
    by_cases hk : kd = 9
    · subst hk
      go_enter Try.func61, Try.ntmps61
      go_wp2_with fail
      go_quiet (fail)
      go_wp2_with fail
      go_ret
      exact ⟨rfl, bl_past ((Below.refl _ w).alloc (Nat.le_refl _) _) (bl_drewN _ _)⟩

    · have hk2 : (kd == 9) = false := by simpa using hk
      rw [decide_eq_false hk]
      clear hk
      go_enter Try.func61, Try.ntmps61
      go_wp2_with fail
      go_quiet (fail)
      go_wp2_with fail
      go_ret
      exact ⟨rfl, bl_past ((Below.refl _ w).alloc (Nat.le_refl _) _) (bl_drewN _ _)⟩


  have x9 : (k == 9) = false := by simpa using e9
  have e : nmB NT os (k, n) = false := by
    simp [nmB, e4, nmO]
    omega
  rw [e]
  clear e HO e4 e6 e7 e8 e9
  go_enter Try.func61, Try.ntmps61
  go_wp2_with fail
  go_ret
  exact ⟨rfl, (Below.refl _ w).alloc (Nat.le_refl _) _⟩

set_option maxRecDepth 100000 in
set_option maxHeartbeats 6400000 in
theorem namesO_any {w : World} {ov : Value} {os : List Ob} (hos : OsV w ov os) (k n : Int) :
    Calls Try.prog 54 #[ov, .agg #[.int .i64 k, .int .i64 n]] w fun e w' => e = .returned (.bool (nmO os (k, n)).isSome) ∧ Below w.heap.size w w' := by
  have HO := hide hos
  obtain ⟨oa, oc, rfl, o1, o2⟩ := hos.shape
  obtain ⟨NO, hNO⟩ : ∃ n, Hid (os.length = n) := ⟨_, hide rfl⟩
  rw [unhide hNO] at HO o1 ⊢
  unfold maxLen at o2
  clear hos
  by_cases h6 : 6 ≤ k
  case neg =>
    have e : (nmO os (k, n)).isSome = false := by simp [nmO, h6]
    rw [e]
    clear e HO
    have d : decide (k < 6) = true := decide_eq_true (by omega)
    go_enter Try.func54, Try.ntmps54
    go_wp2_with fail
    go_ret
    exact ⟨rfl, (Below.refl _ w).alloc (Nat.le_refl _) _⟩

  have d6 : decide (k < 6) = false := decide_eq_false (by omega)
  by_cases h9 : k ≤ 9
  case neg =>
    have e : (nmO os (k, n)).isSome = false := by simp [nmO, h9]
    rw [e]
    clear e HO
    have d : decide (9 < k) = true := decide_eq_true (by omega)
    go_enter Try.func54, Try.ntmps54
    go_wp2_with fail
    go_ret
    exact ⟨rfl, (Below.refl _ w).alloc (Nat.le_refl _) _⟩

  have d9 : decide (9 < k) = false := decide_eq_false (by omega)
  by_cases h0 : 0 ≤ n
  case neg =>
    have e : (nmO os (k, n)).isSome = false := by simp [nmO]; omega
    rw [e]
    clear e HO
    have d : decide (n < 0) = true := decide_eq_true (by omega)
    go_enter Try.func54, Try.ntmps54
    go_wp2_with fail
    go_ret
    exact ⟨rfl, (Below.refl _ w).alloc (Nat.le_refl _) _⟩

  have d0 : decide (n < 0) = false := decide_eq_false (by omega)
  by_cases h1 : n < NO
  case neg =>
    have e : (nmO os (k, n)).isSome = false := by
      have := unhide hNO
      simp [nmO]
      omega
    rw [e]
    clear e HO
    have d : decide ((NO : Int) ≤ n) = true := decide_eq_true (by omega)
    go_enter Try.func54, Try.ntmps54
    go_wp2_with fail
    go_ret
    exact ⟨rfl, (Below.refl _ w).alloc (Nat.le_refl _) _⟩

  obtain ⟨i, rfl⟩ : ∃ i : Nat, n = i := ⟨n.toNat, by omega⟩
  obtain ⟨o, ho⟩ : ∃ o, os[i]? = some o := ⟨_, List.getElem?_eq_getElem (by have := unhide hNO; omega)⟩
  have en : (nmO os (k, (i : Int))).isSome = decide (o.kind = k) := by
    have hl : (i : Int) < (os.length : Int) := by have := unhide hNO; omega
    by_cases hk : o.kind = k <;> simp [nmO, hl, ho, hk, h6, h9]
  rw [en]
  obtain ⟨b, off, ia, ic, ka, kc, ea, hb, k0, -, -, -, -, -, -, -, -, -, -, -⟩ := (unhide HO).six ho
  cases ea
  clear en ho HO
  obtain ⟨kd, its, ys, fn, cp, sh⟩ := o
  simp only at k0 ⊢
  by_cases hk : kd = k
  · subst hk
    rw [decide_eq_true rfl]
    go_enter Try.func54, Try.ntmps54
    go_wp2_with fail
    go_quiet (fail)
    go_wp2_with fail
    go_ret
    exact ⟨rfl, bl_past ((Below.refl _ w).alloc (Nat.le_refl _) _) (bl_drewN _ _)⟩

  · have hk2 : (kd == k) = false := by simpa using hk
    rw [decide_eq_false hk]
    clear hk
    go_enter Try.func54, Try.ntmps54
    go_wp2_with fail
    go_quiet (fail)
    go_wp2_with fail
    go_ret
    exact ⟨rfl, bl_past ((Below.refl _ w).alloc (Nat.le_refl _) _) (bl_drewN _ _)⟩

end Go.Proofs.Ytadgiccfjppnfaa
