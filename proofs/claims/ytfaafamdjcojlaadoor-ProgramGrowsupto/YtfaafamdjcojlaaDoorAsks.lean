/-
  fits, found, Pick.
-/
import Derived.Test.YtfaafamdjcojlaaDoorChecks
import Derived.Test.YtfaafamdjcojlaaDoorSpoil
namespace Go.Proofs.YtfaafamdjcojlaaDoor
open Go.RowKit
set_option linter.unusedVariables false
set_option linter.unusedSimpArgs false
set_option maxRecDepth 100000
noncomputable section
def pick (z : Int) (n : Nat) : Nat := (z % (n : Int)).toNat
theorem pick_lt (z : Int) {n : Nat} (h : 0 < n) : pick z n < n := by
  unfold pick
  have h1 := Int.emod_nonneg z (show (n : Int) ≠ 0 by omega)
  have h2 := Int.emod_lt_of_pos z (show (0 : Int) < (n : Int) by omega)
  omega
theorem ret_int {k : IntKind} {a b : Int} (h : a = b) : Ending.returned (.int k a) = .returned (.int k b) := by rw [h]
theorem pick_val (z : Int) {n : Nat} (h : 0 < n) : ((pick z n : Nat) : Int) = z % (n : Int) := by
  unfold pick
  have h1 := Int.emod_nonneg z (show (n : Int) ≠ 0 by omega)
  omega
theorem tmodN (z : Int) {n : Nat} (h : 0 < n) : (z.tmod (n : Int) = z % (n : Int) ∧ 0 ≤ z.tmod (n : Int)) ∨ (z.tmod (n : Int) = z % (n : Int) - (n : Int) ∧ z.tmod (n : Int) < 0) := by
  have h1 := Int.emod_nonneg z (show (n : Int) ≠ 0 by omega)
  have h2 := Int.emod_lt_of_pos z (show (0 : Int) < (n : Int) by omega)
  have h3 := @Int.tmod_eq_emod z (n : Int)
  by_cases c : 0 ≤ z ∨ (n : Int) ∣ z
  · rw [if_pos c] at h3
    left; omega
  · rw [if_neg c] at h3
    right
    simp only [Int.natAbs_natCast] at h3
    omega
set_option maxRecDepth 100000 in
set_option maxHeartbeats 800000 in
theorem pick_any (w : World) (z : Int) (n : Nat) (h0 : 0 < n) (hN : n ≤ 4611686018427387904) : Calls Tryd.prog 17 #[.int .i64 z, .int .i64 (n : Int)] w fun e w' => e = .returned (.int .i64 ((pick z n : Nat) : Int)) ∧ w' = w := by
  have hp := pick_val z h0
  have h2 := Int.emod_lt_of_pos z (show (0 : Int) < (n : Int) by omega)
  have hz : ¬ ((n : Int) = 0) := by omega
  have h1 : decide ((n : Int) < 1) = false := decide_eq_false (by omega)
  by_cases hn : Int.tmod z n < 0
  · have e : ((pick z n : Nat) : Int) = Int.tmod z n + n := by
      rcases tmodN z h0 with ⟨h1, h2⟩ | ⟨h1, h2⟩ <;> omega
    have hb : -(n : Int) ≤ Int.tmod z n := by omega
    rw [e]
    clear hp e h2
    go_enter Tryd.func17, Tryd.ntmps17
    go_wp2
    all_goals go_ret
    all_goals first | exact ⟨rfl, rfl⟩ | (refine ⟨ret_int ?_, rfl⟩; omega)
  · have e : ((pick z n : Nat) : Int) = Int.tmod z n := by
      rcases tmodN z h0 with ⟨h1, h2⟩ | ⟨h1, h2⟩ <;> omega
    rw [e]
    clear hp e h2
    have hn' : decide (Int.tmod z n < 0) = false := decide_eq_false hn
    go_enter Tryd.func17, Tryd.ntmps17
    go_wp2
    all_goals go_ret
    all_goals first | exact ⟨rfl, rfl⟩ | (refine ⟨ret_int ?_, rfl⟩; omega)
/-- Is it right? -/
def fitV (p : Pg) : Bool := (ckF p).isNone
theorem ckF_ne {p : Pg} {k a y : Int} (h : ckF p = some (k, a, y)) : y ≠ 0 := by
  unfold ckF at h
  cases hc : csF p.consts with
  | some e =>
    obtain ⟨b, z⟩ := e
    rw [hc] at h
    simp only [inE, Option.some.injEq, Prod.mk.injEq] at h
    obtain ⟨_, _, rfl⟩ := h
    unfold csF at hc
    by_cases q : p.consts.length > 512
    · rw [if_pos q] at hc; cases hc; decide
    · rw [if_neg q] at hc
      have key : ∀ (l pre : List Cn) (b z : Int), csG pre l = some (b, z) → z ≠ 0 := by
        intro l
        induction l with
        | nil => intro pre b z h; cases h
        | cons c r ih =>
          intro pre b z h
          rw [csG] at h
          by_cases h1 : rfB c = false
          · rw [if_pos h1] at h; cases h; decide
          · rw [if_neg h1] at h
            by_cases h2 : c.text.size > 4096
            · rw [if_pos h2] at h; cases h; decide
            · rw [if_neg h2] at h
              by_cases h3 : c ∈ pre
              · rw [if_pos h3] at h; cases h; decide
              · rw [if_neg h3] at h; exact ih _ _ _ h
      exact key _ _ _ _ hc
  | none =>
    rw [hc] at h
    simp only at h
    by_cases h0 : p.funcs.length = 0
    · rw [if_pos h0] at h; cases h; decide
    · rw [if_neg h0] at h
      by_cases h1 : p.funcs.length > 128
      · rw [if_pos h1] at h; cases h; decide
      · rw [if_neg h1] at h
        have key : ∀ (l pre : List Fc) (k a y : Int), fsG p pre l = some (k, a, y) → y ≠ 0 := by
          intro l
          induction l with
          | nil => intro pre k a y h; cases h
          | cons f r ih =>
            intro pre k a y h
            rw [fsG] at h
            cases hf : fnF p f (decide (pre.length = 0)) (decide (∃ g ∈ pre, g.name = f.name)) with
            | none => rw [hf] at h; exact ih _ _ _ _ h
            | some e =>
              obtain ⟨b, z⟩ := e
              rw [hf] at h
              simp only [inE, Option.some.injEq, Prod.mk.injEq] at h
              obtain ⟨_, _, rfl⟩ := h
              exact fnF_ne hf
        exact key _ _ _ _ _ h
set_option maxHeartbeats 3200000 in
theorem fit15_any {w : World} {pv : Value} {p : Pg} (hp : PgV w pv p) (hC : p.consts.length ≤ 9000000000000) (hok : ∀ (i : Nat) (f : Fc), p.funcs[i]? = some f → f.code.length ≤ 9000000000000 ∧ f.name.size ≤ 9223372036854775807 ∧ ∀ q ∈ f.code, I64 q.2) :
    Calls Tryd.prog 15 #[pv] w fun e w' => e = .returned (.bool (fitV p)) ∧ Below w.heap.size w w' := by
  have HPV := hide hp
  obtain ⟨cv, fv, rfl, hc, hf⟩ := hp
  obtain ⟨fa, fcp, rfl, _, _, _⟩ := hf.at
  obtain ⟨_, ca, ccap, rfl, _, _, _⟩ := hc
  clear hf
  have hb1 : Below w.heap.size w (w.alloc (.cells #[.slice ca p.consts.length ccap, .slice fa p.funcs.length fcp] 25)) := (Below.refl _ _).alloc (Nat.le_refl _) _
  have HC := hide (rCheck_any ((unhide HPV).below hb1 (Nat.le_refl _)) hC hok)
  obtain ⟨NC, hNC⟩ : ∃ L, p.consts.length = L := ⟨_, rfl⟩
  obtain ⟨NF, hNF⟩ : ∃ L, p.funcs.length = L := ⟨_, rfl⟩
  rw [hNC, hNF] at HC HPV ⊢
  have HB := hide hb1
  rw [hNC, hNF] at HB
  clear hb1 hC hok
  go_enter Tryd.func15, Tryd.ntmps15
  go_wp2_with fail
  refine (unhide HC).mono ?_
  rintro e w2 ⟨rfl, hb2⟩
  have HB2 := hide ((unhide HB).trans (hb2.mono (unhide HB).size))
  cases hck : ckF p with
  | none =>
    have hv : fitV p = true := by unfold fitV; rw [hck]; rfl
    rw [rsV]
    have HV := hide hv
    clear hv
    go_wp2_with fail
    go_ret
    exact ⟨by rw [unhide HV]; rfl, (unhide HB2).trans (((Below.refl _ _).alloc (Nat.le_refl _) _).mono (unhide HB2).size)⟩
  | some x =>
    obtain ⟨k, a, y⟩ := x
    have hy : y ≠ 0 := ckF_ne hck
    have hv : fitV p = false := by unfold fitV; rw [hck]; rfl
    rw [rsV]
    have HV := hide hv
    clear hv
    go_wp2_with fail
    go_ret
    exact ⟨by rw [unhide HV]; show Ending.returned (Value.bool (y == 0)) = _; rw [show (y == 0) = false by simpa using hy], (unhide HB2).trans (((Below.refl _ _).alloc (Nat.le_refl _) _).mono (unhide HB2).size)⟩
/-- Is just this found? -/
def fouV (p : Pg) (e fn pc : Int) : Bool := match ckF p with
  | none => decide (e = 0 ∧ fn = 0 ∧ pc = 0)
  | some (k, a, y) => decide (e = y ∧ fn = k ∧ pc = a)
set_option maxHeartbeats 3200000 in
theorem found_any {w : World} {pv : Value} {p : Pg} (e fn pc : Int) (hp : PgV w pv p) (hok : OkP p) (hla : Laid w) :
    Calls Tryd.prog 16 #[pv, .int .i64 e, .int .i64 fn, .int .i64 pc] w fun ev w' => ev = .returned (.bool (fouV p e fn pc)) ∧ Below w.heap.size w w' := by
  have HPV := hide hp
  obtain ⟨cv, fv, rfl, hc, hf⟩ := hp
  obtain ⟨fa, fcp, rfl, _, _, _⟩ := hf.at
  obtain ⟨_, ca, ccap, rfl, _, _, _⟩ := hc
  clear hf
  have hb1 : Below w.heap.size w (w.alloc (.cells #[.slice ca p.consts.length ccap, .slice fa p.funcs.length fcp] 25)) := (Below.refl _ _).alloc (Nat.le_refl _) _
  have HC := hide (pCheck_any ((unhide HPV).below hb1 (Nat.le_refl _)) hok (hla.below hb1))
  obtain ⟨NC, hNC⟩ : ∃ L, p.consts.length = L := ⟨_, rfl⟩
  obtain ⟨NF, hNF⟩ : ∃ L, p.funcs.length = L := ⟨_, rfl⟩
  rw [hNC, hNF] at HC HPV ⊢
  have HB := hide hb1
  rw [hNC, hNF] at HB
  obtain ⟨k, a, y, hrs⟩ := rsV_shape (ckF p)
  have hfv : fouV p e fn pc = decide (e = y ∧ fn = k ∧ pc = a) := by
    unfold fouV
    cases hck : ckF p with
    | none => rw [hck] at hrs; simp only [rsV, Value.tuple.injEq] at hrs; simp at hrs; obtain ⟨⟨rfl, rfl⟩, rfl⟩ := hrs; rfl
    | some x => obtain ⟨k', a', y'⟩ := x; rw [hck] at hrs; simp only [rsV, Value.tuple.injEq] at hrs; simp at hrs; obtain ⟨⟨rfl, rfl⟩, rfl⟩ := hrs; rfl
  rw [hfv]
  have HRS := hide hrs
  clear hb1 hok hla hrs hfv
  go_enter Tryd.func16, Tryd.ntmps16
  go_wp2_with fail
  refine (unhide HC).mono ?_
  rintro ev w2 ⟨rfl, hb2⟩
  have HB2 := hide ((unhide HB).trans (hb2.mono (unhide HB).size))
  rw [unhide HRS]
  by_cases h1 : e = y
  · subst h1
    by_cases h2 : fn = k
    · subst h2
      by_cases h3 : pc = a
      · subst h3
        go_wp2_with fail
        go_ret
        exact ⟨by simp, (unhide HB2).trans (((Below.refl _ _).alloc (Nat.le_refl _) _).mono (unhide HB2).size)⟩
      · have h3' : ¬ (a = pc) := fun e => h3 e.symm
        go_wp2_with fail
        go_ret
        exact ⟨by simp [h3], (unhide HB2).trans (((Below.refl _ _).alloc (Nat.le_refl _) _).mono (unhide HB2).size)⟩
    · have h2' : ¬ (k = fn) := fun e => h2 e.symm
      go_wp2_with fail
      go_ret
      exact ⟨by simp [h2], (unhide HB2).trans (((Below.refl _ _).alloc (Nat.le_refl _) _).mono (unhide HB2).size)⟩
  · have h1' : ¬ (y = e) := fun q => h1 q.symm
    go_wp2_with fail
    go_ret
    exact ⟨by simp [h1], (unhide HB2).trans (((Below.refl _ _).alloc (Nat.le_refl _) _).mono (unhide HB2).size)⟩
end
end Go.Proofs.YtfaafamdjcojlaaDoor
