/-
  The document's next instruction.
-/
import Derived.Test.YtadgiccfjppnfaaDn0
namespace Go.Proofs.Ytadgiccfjppnfaa
open Go.RowKit
set_option linter.unusedVariables false
set_option linter.unusedSimpArgs false
set_option maxRecDepth 100000 in
set_option maxHeartbeats 1600000 in
theorem dNext_out {w : World} {pv v : Value} {p : Pg} {s : St} (hp : PgV w pv p) (h : StV w v s) (k : Int) (hk : ¬ (0 ≤ k ∧ k < s.fibs.length)) : Calls Try.prog 50 #[pv, v, .int .i64 k] w (DnP w (nxD p s k)) := by
  obtain ⟨ta, tc, oa, oc, ba, bc, rfl, -, -, rb, t1, t2, o1, o2, b1, b2⟩ := h.shape
  unfold maxLen at t2 o2 b2
  obtain ⟨ca, cc, pa, pc, rfl, hr, f1, f2⟩ := hp.shape
  unfold maxLen at f2
  obtain ⟨NT, hNT⟩ : ∃ n, Hid (s.texts.length = n) := ⟨_, hide rfl⟩
  obtain ⟨NO, hNO⟩ : ∃ n, Hid (s.objs.length = n) := ⟨_, hide rfl⟩
  obtain ⟨NB, hNB⟩ : ∃ n, Hid (s.fibs.length = n) := ⟨_, hide rfl⟩
  obtain ⟨NC, hNC⟩ : ∃ n, Hid (p.consts.length = n) := ⟨_, hide rfl⟩
  obtain ⟨NF, hNF⟩ : ∃ n, Hid (p.funcs.length = n) := ⟨_, hide rfl⟩
  rw [unhide hNT, unhide hNO, unhide hNB, unhide hNC, unhide hNF]
  rw [unhide hNB] at b1
  rw [unhide hNF] at f1
  have HB4 : Hid (∀ O1 O2 O3 O4, Below w.heap.size w ((((w.alloc O1).alloc O2).alloc O3).alloc O4)) := bl_four w
  have HB5 : Hid (∀ O1 O2 O3 O4 O5, Below w.heap.size w (((((w.alloc O1).alloc O2).alloc O3).alloc O4).alloc O5)) := bl_five w
  have HN : Hid (nxD p s k = none) := by unfold nxD; rw [if_neg hk]; exact hide rfl
  rw [unhide hNB] at hk
  clear h hp hr rb
  by_cases h0 : 0 ≤ k
  · have g0 : decide (k < 0) = false := decide_eq_false (by omega)
    have g1 : decide ((NB : Int) ≤ k) = true := decide_eq_true (by omega)
    clear hk
    go_enter Try.func50, Try.ntmps50
    go_wp2_with fail
    refine bodyPost_ret (v := .tuple #[.agg #[.int .i64 0, .int .i64 0], .agg #[.int .i64 0, .int .i64 0, .slice none 0 0], .bool false]) ?_ rfl ?_
    · rw [results_cct rfl]
      go_simp
    · have hP : ∀ W, Below w.heap.size w W → DnP w (nxD p s k) (.returned (.tuple #[.agg #[.int .i64 0, .int .i64 0], .agg #[.int .i64 0, .int .i64 0, .slice none 0 0], .bool false])) W := fun W hW => by rw [unhide HN]; exact ⟨rfl, hW⟩
      apply hP
      repeat (first | refine Below.setCell ?_ (by first | (simp; done) | (simp; omega)) _ | with_reducible exact unhide HB4 _ _ _ _)
  · have g0 : decide (k < 0) = true := decide_eq_true (by omega)
    clear hk
    go_enter Try.func50, Try.ntmps50
    go_wp2_with fail
    refine bodyPost_ret (v := .tuple #[.agg #[.int .i64 0, .int .i64 0], .agg #[.int .i64 0, .int .i64 0, .slice none 0 0], .bool false]) ?_ rfl ?_
    · rw [results_cct rfl]
      go_simp
    · have hP : ∀ W, Below w.heap.size w W → DnP w (nxD p s k) (.returned (.tuple #[.agg #[.int .i64 0, .int .i64 0], .agg #[.int .i64 0, .int .i64 0, .slice none 0 0], .bool false])) W := fun W hW => by rw [unhide HN]; exact ⟨rfl, hW⟩
      apply hP
      repeat (first | refine Below.setCell ?_ (by first | (simp; done) | (simp; omega)) _ | with_reducible exact unhide HB4 _ _ _ _)
set_option maxRecDepth 100000 in
set_option maxHeartbeats 1600000 in
theorem dNext_end {w : World} {pv v : Value} {p : Pg} {s : St} (hp : PgV w pv p) (h : StV w v s) (i : Nat) (hi : s.fibs[i]? = some []) : Calls Try.prog 50 #[pv, v, .int .i64 i] w (DnP w (nxD p s i)) := by
  obtain ⟨ta, tc, oa, oc, ba, bc, rfl, -, -, rb, t1, t2, o1, o2, b1, b2⟩ := h.shape
  unfold maxLen at t2 o2 b2
  obtain ⟨ca, cc, pa, pc, rfl, hr, f1, f2⟩ := hp.shape
  unfold maxLen at f2
  obtain ⟨NT, hNT⟩ : ∃ n, Hid (s.texts.length = n) := ⟨_, hide rfl⟩
  obtain ⟨NO, hNO⟩ : ∃ n, Hid (s.objs.length = n) := ⟨_, hide rfl⟩
  obtain ⟨NB, hNB⟩ : ∃ n, Hid (s.fibs.length = n) := ⟨_, hide rfl⟩
  obtain ⟨NC, hNC⟩ : ∃ n, Hid (p.consts.length = n) := ⟨_, hide rfl⟩
  obtain ⟨NF, hNF⟩ : ∃ n, Hid (p.funcs.length = n) := ⟨_, hide rfl⟩
  rw [unhide hNT, unhide hNO, unhide hNB, unhide hNC, unhide hNF]
  rw [unhide hNB] at b1
  rw [unhide hNF] at f1
  have HB4 : Hid (∀ O1 O2 O3 O4, Below w.heap.size w ((((w.alloc O1).alloc O2).alloc O3).alloc O4)) := bl_four w
  have HB5 : Hid (∀ O1 O2 O3 O4 O5, Below w.heap.size w (((((w.alloc O1).alloc O2).alloc O3).alloc O4).alloc O5)) := bl_five w
  have hk : 0 ≤ (i : Int) ∧ (i : Int) < (s.fibs.length : Int) := by have := (List.getElem?_eq_some_iff.1 hi).1; omega
  have HN : Hid (nxD p s i = none) := by unfold nxD; rw [if_pos hk, Int.toNat_natCast, hi]; exact hide rfl
  have hil := (List.getElem?_eq_some_iff.1 hi).1
  rw [unhide hNB] at hil
  obtain ⟨b, off, fa, fc, ea, hb, k0, hF, hfl, hfm⟩ := rb.one hi
  cases ea
  have i0 : (0 : Int) ≤ (i : Int) := by omega
  have i1 : (i : Int) < (NB : Int) := by omega
  have g0 : decide ((i : Int) < 0) = false := decide_eq_false (by omega)
  have g1 : ¬ NB ≤ i := by omega
  have bl1 : b < w.heap.size + 1 := by omega
  have bl2 : b < w.heap.size + 1 + 1 := by omega
  have bl3 : b < w.heap.size + 1 + 1 + 1 := by omega
  have bl4 : b < w.heap.size + 1 + 1 + 1 + 1 := by omega
  unfold maxLen at hfm
  have k0' : w.cell? ⟨b, off + i, none⟩ = some (.slice fa 0 fc) := k0
  clear h hp hr rb hF hk k0 hi
  go_enter Try.func50, Try.ntmps50
  go_wp2_with fail
  refine bodyPost_ret (v := .tuple #[.agg #[.int .i64 0, .int .i64 0], .agg #[.int .i64 0, .int .i64 0, .slice none 0 0], .bool false]) ?_ rfl ?_
  · rw [results_cct rfl]
    go_simp
  · have hP : ∀ W, Below w.heap.size w W → DnP w (nxD p s i) (.returned (.tuple #[.agg #[.int .i64 0, .int .i64 0], .agg #[.int .i64 0, .int .i64 0, .slice none 0 0], .bool false])) W := fun W hW => by rw [unhide HN]; exact ⟨rfl, hW⟩
    apply hP
    repeat (first | refine Below.setCell ?_ (by first | (simp; done) | (simp; omega)) _ | with_reducible exact unhide HB4 _ _ _ _)
end Go.Proofs.Ytadgiccfjppnfaa
