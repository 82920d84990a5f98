/-
  The frame that runs; the next instruction.
-/
import Derived.Test.YtadgiccfjppnfaaLni
import Derived.Test.YtadgiccfjppnfaaSf
import Derived.Laws.ResultCell
namespace Go.Proofs.Ytadgiccfjppnfaa
open Go.RowKit
set_option linter.unusedVariables false
set_option linter.unusedSimpArgs false
set_option maxRecDepth 100000 in
theorem within_any (w : World) (i n : Int) : Calls Try.prog 48 #[.int .i64 i, .int .i64 n] w fun e w' => e = .returned (.bool (decide (0 ≤ i ∧ i < n))) ∧ w' = w := by
  go_enter Try.func48, Try.ntmps48
  by_cases h0 : 0 ≤ i <;> by_cases h1 : i < n
  all_goals
    go_wp2
    go_ret
    simp_all
/-- What running answers where there is no frame. -/
def RnN (w : World) (e : Ending) (w' : World) : Prop := e = .returned (.tuple #[.agg #[.int .i64 0, .int .i64 0, .slice none 0 0], .bool false]) ∧ Below w.heap.size w w'
/-- What it answers where there is one. -/
def RnY (w : World) (f : Fm) (e : Ending) (w' : World) : Prop := ∃ sa sc, e = .returned (.tuple #[.agg #[.int .i64 f.fn, .int .i64 f.pc, .slice sa f.sl.length sc], .bool true]) ∧ Rx w' 2 (.slice sa f.sl.length sc) f.sl.length (flt enI f.sl) ∧ f.sl.length ≤ sc ∧ sc ≤ maxLen ∧ Below w.heap.size w w'
theorem set_below {w w1 W : World} {a b : Nat} (h : Below w.heap.size w w1) (hF : Fr (fun k => k = a ∨ k = b) w1 W) (ha : w.heap.size ≤ a) (hb : w.heap.size ≤ b) : Below w.heap.size w W := h.trans (hF.below h.size (fun k hk e => by omega))
set_option maxRecDepth 100000 in
set_option maxHeartbeats 6400000 in
theorem running_out {w : World} {v : Value} {s : St} (h : StV w v s) (k : Int) (hk : ¬ (0 ≤ k ∧ k < s.fibs.length)) : Calls Try.prog 47 #[v, .int .i64 k] w (RnN w) := by
  obtain ⟨ta, tc, oa, oc, ba, bc, rfl, -, -, rb, t1, t2, o1, o2, b1, b2⟩ := h.shape
  unfold maxLen at t2 o2 b2
  obtain ⟨NT, hNT⟩ : ∃ n, Hid (s.texts.length = n) := ⟨_, hide rfl⟩
  obtain ⟨NO, hNO⟩ : ∃ n, Hid (s.objs.length = n) := ⟨_, hide rfl⟩
  obtain ⟨NB, hNB⟩ : ∃ n, Hid (s.fibs.length = n) := ⟨_, hide rfl⟩
  rw [unhide hNT, unhide hNO, unhide hNB]
  rw [unhide hNB] at hk
  clear h rb
  have HW := hide (fun w => within_any w k NB)
  rw [decide_eq_false hk] at HW
  have hsz : Hid (∀ O1 O2, Below w.heap.size w ((w.alloc O1).alloc O2)) := bl_two w
  obtain ⟨q1, q2⟩ := two_cells (w := w) (a := #[.slice ta NT tc, .slice oa NO oc, .slice ba NB bc, .int .i64 s.cur, .int .i64 s.steps, .int .i64 s.spent, .int .i64 s.read]) (ta := 26) (b := #[.int .i64 0, .int .i64 0, .slice none 0 0]) (tb := 38) ⟨bl_two w _ _, Below.refl _ _⟩
  clear q1 q2
  go_enter Try.func47, Try.ntmps47
  go_wp2_with fail
  refine (unhide HW _).mono ?_
  rintro e w1 ⟨rfl, rfl⟩
  go_wp2_with fail
  refine bodyPost_ret (v := .tuple #[.agg #[.int .i64 0, .int .i64 0, .slice none 0 0], .bool false]) ?_ rfl ?_
  · rw [results_cell_tmp rfl]
    go_simp
  · refine ⟨rfl, ?_⟩
    repeat (first | exact unhide hsz _ _ | refine Below.setCell ?_ (by simp) _)
set_option maxRecDepth 100000 in
set_option maxHeartbeats 6400000 in
theorem running_end {w : World} {v : Value} {s : St} (h : StV w v s) (i : Nat) (hi : s.fibs[i]? = some []) : Calls Try.prog 47 #[v, .int .i64 i] w (RnN w) := by
  obtain ⟨ta, tc, oa, oc, ba, bc, rfl, -, -, rb, t1, t2, o1, o2, b1, b2⟩ := h.shape
  unfold maxLen at t2 o2 b2
  obtain ⟨NT, hNT⟩ : ∃ n, Hid (s.texts.length = n) := ⟨_, hide rfl⟩
  obtain ⟨NO, hNO⟩ : ∃ n, Hid (s.objs.length = n) := ⟨_, hide rfl⟩
  obtain ⟨NB, hNB⟩ : ∃ n, Hid (s.fibs.length = n) := ⟨_, hide rfl⟩
  rw [unhide hNT, unhide hNO, unhide hNB]
  have hil := (List.getElem?_eq_some_iff.1 hi).1
  rw [unhide hNB] at hil
  obtain ⟨b, off, fa, fc, ea, hb, k0, -, -, hfm⟩ := rb.one hi
  cases ea
  unfold maxLen at hfm
  clear h rb hi
  have HW := hide (fun w => within_any w i NB)
  rw [decide_eq_true (by omega)] at HW
  have i0 : (0 : Int) ≤ (i : Int) := by omega
  have i1 : (i : Int) < (NB : Int) := by omega
  have hsz : Hid (∀ O1 O2, Below w.heap.size w ((w.alloc O1).alloc O2)) := bl_two w
  have kk : ∀ O1 O2, ((w.alloc O1).alloc O2).cell? ⟨b, off + i, none⟩ = some (.slice fa 0 fc) := fun O1 O2 => ((bl_two w O1 O2).cell (p := ⟨b, off + i, none⟩) hb).trans k0
  go_enter Try.func47, Try.ntmps47
  go_wp2_with fail
  refine (unhide HW _).mono ?_
  rintro e w1 ⟨rfl, rfl⟩
  go_wp2_with fail
  refine bodyPost_ret (v := .tuple #[.agg #[.int .i64 0, .int .i64 0, .slice none 0 0], .bool false]) ?_ rfl ?_
  · rw [results_cell_tmp rfl]
    go_simp
  · refine ⟨rfl, ?_⟩
    repeat (first | exact unhide hsz _ _ | refine Below.setCell ?_ (by simp) _)
set_option maxRecDepth 100000 in
set_option maxHeartbeats 6400000 in
theorem running_yes {w : World} {v : Value} {s : St} (h : StV w v s) (i : Nat) {fs : List Fm} {f : Fm} (hi : s.fibs[i]? = some fs) (n : Nat) (hn : fs.length = n + 1) (hf : fs[n]? = some f) (hN : n < 1048576) : Calls Try.prog 47 #[v, .int .i64 i] w (RnY w f) := by
  obtain ⟨ta, tc, oa, oc, ba, bc, rfl, -, -, rb, t1, t2, o1, o2, b1, b2⟩ := h.shape
  unfold maxLen at t2 o2 b2
  obtain ⟨NT, hNT⟩ : ∃ n, Hid (s.texts.length = n) := ⟨_, hide rfl⟩
  obtain ⟨NO, hNO⟩ : ∃ n, Hid (s.objs.length = n) := ⟨_, hide rfl⟩
  obtain ⟨NB, hNB⟩ : ∃ n, Hid (s.fibs.length = n) := ⟨_, hide rfl⟩
  rw [unhide hNT, unhide hNO, unhide hNB]
  have hil := (List.getElem?_eq_some_iff.1 hi).1
  rw [unhide hNB] at hil
  obtain ⟨b, off, fa, fc, ea, hb, k0, hF, hfl, hfm⟩ := rb.one hi
  cases ea
  rw [hn] at k0 hF hfl
  obtain ⟨fb, fo, sa, sc, ef, hfb, c0, c1, c2, hx, hsl, hsm⟩ := hF.three hf
  cases ef
  have HSM := hide hsm
  have HX := hide hx
  have HSL := hide hsl
  unfold maxLen at hfm hsm
  obtain ⟨fn, pc, sl⟩ := f
  simp only at c0 c1 c2 hsl HX HSL ⊢
  obtain ⟨SL, hSL⟩ : ∃ n, Hid (sl.length = n) := ⟨_, hide rfl⟩
  rw [unhide hSL] at c2 hsl
  clear h rb hi hF hx hf hn
  have HW := hide (fun w => within_any w i NB)
  rw [decide_eq_true (by omega)] at HW
  have i0 : (0 : Int) ≤ (i : Int) := by omega
  have i1 : (i : Int) < (NB : Int) := by omega
  have n0 : (0 : Int) ≤ (n : Int) := by omega
  have ee : IntKind.i64.wrap (((n + 1 : Nat) : Int) - 1) = (n : Int) := by rw [show ((n + 1 : Nat) : Int) - 1 = (n : Int) by omega]; go_arith
  have en : (((n + 1 : Nat) : Int) == 0) = false := by simp; omega
  have hsz : Hid (∀ O1 O2, Below w.heap.size w ((w.alloc O1).alloc O2)) := bl_two w
  have hbl := Nat.lt_of_lt_of_le hb (Nat.le_refl _)
  go_enter Try.func47, Try.ntmps47
  go_wp2_with fail
  refine (unhide HW _).mono ?_
  rintro e w1 ⟨rfl, rfl⟩
  go_wp2_with fail
  refine bodyPost_ret (v := .tuple #[.agg #[.int .i64 fn, .int .i64 pc, .slice sa SL sc], .bool true]) ?_ rfl ?_
  · rw [results_cell_tmp rfl]
    go_simp
  · have hB : ∀ W, Below w.heap.size w W → RnY w ⟨fn, pc, sl⟩ (.returned (.tuple #[.agg #[.int .i64 fn, .int .i64 pc, .slice sa SL sc], .bool true])) W := fun W hW => ⟨sa, sc, by rw [unhide hSL], (unhide HX).below hW (Nat.le_refl _), unhide HSL, unhide HSM, hW⟩
    apply hB
    repeat (first | exact unhide hsz _ _ | refine Below.setCell ?_ (by simp) _)
end Go.Proofs.Ytadgiccfjppnfaa
