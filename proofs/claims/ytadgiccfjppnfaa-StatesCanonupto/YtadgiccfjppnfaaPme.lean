/-
  The closure that meets.
-/
import Derived.Test.YtadgiccfjppnfaaPo
import Derived.Deep.QuietTactic
namespace Go.Proofs.Ytadgiccfjppnfaa
open Go.RowKit
set_option linter.unusedVariables false
set_option linter.unusedSimpArgs false
theorem metV_no {nt : Nat} {O : List Ob} {m : List Nat × List Nat} {v : Int × Int} (h : nmB nt O v = false) : metV nt O m v = m := by
  unfold nmB at h
  unfold metV
  by_cases h4 : v.1 = 4
  · rw [if_pos h4] at h
    rw [if_pos h4]
    unfold addT
    rw [if_neg (of_decide_eq_false h)]
  · rw [if_neg h4] at h
    rw [if_neg h4, if_neg (by rw [h]; simp)]
theorem metV_old {nt : Nat} {O : List Ob} {m : List Nat × List Nat} {v : Int × Int} (h : (mpF O m v).isSome = true) : metV nt O m v = m := by
  unfold mpF at h
  unfold metV
  by_cases h4 : v.1 = 4
  · rw [if_pos h4] at h
    rw [if_pos h4]
    by_cases q : 0 ≤ v.2 ∧ v.2.toNat ∈ m.1
    · unfold addT
      split
      · unfold addN
        rw [if_pos q.2]
      · rfl
    · rw [if_neg q] at h; simp at h
  · rw [if_neg h4] at h
    rw [if_neg h4]
    by_cases q : (nmO O v).isSome = true ∧ v.2.toNat ∈ m.2
    · rw [if_pos q.1]
      unfold addN
      rw [if_pos q.2]
    · rw [if_neg q] at h; simp at h
/-- Something that is named and was not met: a text, or an object. -/
theorem met_new {nt : Nat} {O : List Ob} {m : List Nat × List Nat} {k n : Int} (h : nmB nt O (k, n) = true) (hf : mpF O m (k, n) = none) :
    (k = 4 ∧ ∃ i : Nat, n = i ∧ i < nt ∧ i ∉ m.1 ∧ metV nt O m (k, n) = (m.1 ++ [i], m.2)) ∨ (k ≠ 4 ∧ ∃ i : Nat, n = i ∧ i < O.length ∧ i ∉ m.2 ∧ (nmO O (k, (i : Int))).isSome = true ∧ metV nt O m (k, n) = (m.1, m.2 ++ [i])) := by
  unfold nmB at h
  unfold mpF at hf
  by_cases h4 : k = 4
  · rw [if_pos h4] at h hf
    have h1 := of_decide_eq_true h
    simp only at h1 hf
    obtain ⟨i, rfl⟩ : ∃ i : Nat, n = i := ⟨n.toNat, by omega⟩
    have hin : i ∉ m.1 := fun q => by
      rw [if_pos ⟨by omega, by simpa using q⟩] at hf
      simp at hf
    refine .inl ⟨h4, i, rfl, by omega, hin, ?_⟩
    unfold metV
    rw [if_pos h4]
    unfold addT addN
    simp only
    rw [if_pos h1, Int.toNat_natCast, if_neg hin]
  · rw [if_neg h4] at h hf
    simp only at h hf
    have h0 : 0 ≤ n ∧ n < O.length := by
      unfold nmO at h
      split at h
      · rename_i q; exact q.2.2
      · simp at h
    obtain ⟨i, rfl⟩ : ∃ i : Nat, n = i := ⟨n.toNat, by omega⟩
    have hin : i ∉ m.2 := fun q => by
      rw [if_pos ⟨h, by simpa using q⟩] at hf
      simp at hf
    refine .inr ⟨h4, i, rfl, by omega, hin, h, ?_⟩
    unfold metV
    rw [if_neg h4, if_pos h]
    unfold addN
    simp only
    rw [Int.toNat_natCast, if_neg hin]
set_option maxRecDepth 100000 in
set_option maxHeartbeats 6400000 in
theorem meet_no {w0 : World} {T : List ByteArray} {O : List Ob} {X : List Obv} {ta oa : Option Addr} {tc oc : Nat} (hS : SIn w0 T O X ta oa tc oc) {sv : Array Value} (s0 : sv[0]? = some (.slice ta T.length tc)) (s1 : sv[1]? = some (.slice oa O.length oc)) {pb qb ob mb : Nat} {tv ov : Value} {w : World} {m : List Nat × List Nat} (h : PW w0 T O X sv pb qb ob mb tv ov w m) (hm : MOk T.length O.length m) (hnt : T.length ≤ 1048576) (hno : O.length ≤ 1048576) {k n : Int} (hv : OkV (k, n)) (hb : nmB T.length O (k, n) = false) :
    Calls Try.prog 60 #[.agg #[.int .i64 k, .int .i64 n], .pointer (some ⟨pb, 0, none⟩), .pointer (some ⟨qb, 0, none⟩)] w fun e w' => (∃ r, e = .returned r) ∧ MeP w0 T O X sv pb qb ob mb tv ov w (metV T.length O m (k, n)) w' := by
  have f1 : Below w.heap.size w (w.alloc (.cells #[.int .i64 k, .int .i64 n] 40)) := (Below.refl _ w).alloc (Nat.le_refl _) _
  have hp1 : Below w.heap.size w (w.alloc (.cells #[.int .i64 k, .int .i64 n] 40)) := f1
  have h1 := h.below f1
  have hpb := (blk_cells h.bs).2.2
  have hqb := (blk_cells h.bo).2.2
  obtain ⟨ht1, ht2⟩ : T.length ≤ tc ∧ tc ≤ maxLen := by
    obtain ⟨_, _, et, a, b⟩ := hS.t.shape
    injection et with _ _ e3
    rw [e3]
    exact ⟨a, b⟩
  have HN := hide (names_any (w := w.alloc (.cells #[.int .i64 k, .int .i64 n] 40)) (pb := pb) (ta := ta) (oa := oa) (NT := T.length) (tc := tc) (NO := O.length) (oc := oc) (os := O) (by rw [(blk_cells h1.bs).1 0]; exact s0) (by rw [(blk_cells h1.bs).1 1]; exact s1) (hS.os.below h1.bl (Nat.le_refl _)) ⟨ht1, ht2⟩ k n)
  rw [metV_no hb]
  rw [hb] at HN
  have HH := hide h
  clear h h1 hS hm hv hb
  go_enter Try.func60, Try.ntmps60
  go_wp2_with fail
  refine (unhide HN).mono ?_
  rintro e w2 ⟨rfl, hb2⟩
  have HB := hide (bl_past hp1 hb2)
  clear hb2
  go_wp2_with fail
  (try simp only [Exit.inBlock, Exit.then]); refine bodyPost_ret (results_none rfl _ _ _) rfl ?_
  exact ⟨⟨_, rfl⟩, tv, ov, (unhide HH).below (unhide HB), OrT.of_below (unhide HB)⟩
set_option maxRecDepth 100000 in
set_option maxHeartbeats 6400000 in
theorem meet_old {w0 : World} {T : List ByteArray} {O : List Ob} {X : List Obv} {ta oa : Option Addr} {tc oc : Nat} (hS : SIn w0 T O X ta oa tc oc) {sv : Array Value} (s0 : sv[0]? = some (.slice ta T.length tc)) (s1 : sv[1]? = some (.slice oa O.length oc)) {pb qb ob mb : Nat} {tv ov : Value} {w : World} {m : List Nat × List Nat} (h : PW w0 T O X sv pb qb ob mb tv ov w m) (hm : MOk T.length O.length m) (hnt : T.length ≤ 1048576) (hno : O.length ≤ 1048576) {k n : Int} (hv : OkV (k, n)) (hb : nmB T.length O (k, n) = true) (hf : (mpF O m (k, n)).isSome = true) :
    Calls Try.prog 60 #[.agg #[.int .i64 k, .int .i64 n], .pointer (some ⟨pb, 0, none⟩), .pointer (some ⟨qb, 0, none⟩)] w fun e w' => (∃ r, e = .returned r) ∧ MeP w0 T O X sv pb qb ob mb tv ov w (metV T.length O m (k, n)) w' := by
  have f1 : Below w.heap.size w (w.alloc (.cells #[.int .i64 k, .int .i64 n] 40)) := (Below.refl _ w).alloc (Nat.le_refl _) _
  have hp1 : Below w.heap.size w (w.alloc (.cells #[.int .i64 k, .int .i64 n] 40)) := f1
  have h1 := h.below f1
  have hpb := (blk_cells h.bs).2.2
  have hqb := (blk_cells h.bo).2.2
  obtain ⟨ht1, ht2⟩ : T.length ≤ tc ∧ tc ≤ maxLen := by
    obtain ⟨_, _, et, a, b⟩ := hS.t.shape
    injection et with _ _ e3
    rw [e3]
    exact ⟨a, b⟩
  have HN := hide (names_any (w := w.alloc (.cells #[.int .i64 k, .int .i64 n] 40)) (pb := pb) (ta := ta) (oa := oa) (NT := T.length) (tc := tc) (NO := O.length) (oc := oc) (os := O) (by rw [(blk_cells h1.bs).1 0]; exact s0) (by rw [(blk_cells h1.bs).1 1]; exact s1) (hS.os.below h1.bl (Nat.le_refl _)) ⟨ht1, ht2⟩ k n)
  rw [metV_old hf]
  rw [hb] at HN
  have HH := hide h
  have HV := hide hv
  have HF := hide hf
  clear h h1 hS hm hv hb hf
  go_enter Try.func60, Try.ntmps60
  go_wp2_with fail
  refine (unhide HN).mono ?_
  rintro e w2 ⟨rfl, hb2⟩
  have HB := hide (bl_past hp1 hb2)
  have b3 := bkeep1 (heap_alloc_new w (.cells #[.int .i64 k, .int .i64 n] 40)) hb2
  have HB3 := hide b3
  have h2 := (unhide HH).below (unhide HB)
  have q0 := (blk_cells h2.bo).1 0
  have o2 := (blk_cells h2.or.box).1 2
  have v0 := (blk_cells b3).1 0
  have v1 := (blk_cells b3).1 1
  simp at q0 o2 v0 v1
  have hlk : ∀ nq, (Instr.lookup 71 (.map (some mb)) (.agg #[.int .i64 k, .int .i64 n]) true).run Try.prog (w2.drewN nq) = .ok (.tuple #[.int .i64 (((mpF O m (k, n)).getD 0 : Nat) : Int), .bool true]) (w2.drewN nq) := fun nq => by
    have := ((h2.below (bl_drewN w2 nq)).or.mp).look (k, n) (unhide HV)
    rw [unhide HF] at this
    exact this
  have hl2 := (blk_cells h2.bo).2.2
  have hl3 := (blk_cells h2.or.box).2.2
  have hl4 := (blk_cells b3).2.2
  have H2 := hide h2
  obtain ⟨cc, hcc⟩ : ∃ cc : Int, Hid ((((mpF O m (k, n)).getD 0 : Nat) : Int) = cc) := ⟨_, hide rfl⟩
  rw [unhide hcc] at hlk
  clear hb2 h2 b3
  go_wp2_with fail
  go_quiet (fail)
  obtain ⟨Y, hY⟩ : ∃ Y, Hid (w2.drewN nq = Y) := ⟨_, hide rfl⟩
  have HY : Hid (Below w2.heap.size w2 Y) := by rw [← unhide hY]; exact hide (bl_drewN w2 nq)
  rw [unhide hY]
  clear hY hlk
  go_wp2_with fail
  (try simp only [Exit.inBlock, Exit.then]); refine bodyPost_ret (results_none rfl _ _ _) rfl ?_
  exact ⟨⟨_, rfl⟩, tv, ov, (unhide HH).below (bl_past (unhide HB) (unhide HY)), OrT.of_below (bl_past (unhide HB) (unhide HY))⟩
end Go.Proofs.Ytadgiccfjppnfaa
