/-
  What makes an object: Array, Record, Bound, Chan.
-/
import Derived.Test.YtkpngfahnpidkaaPLent
namespace Go.Proofs.Ytkpngfahnpidkaa
open Go.RowKit
set_option linter.unusedVariables false
set_option linter.unusedSimpArgs false

/-- append of nothing. -/
theorem wpList_app0 {w : World} {ops : Array Oper} {rest : List Oper} {o : Oper} {a : Act} {Q : Exit → Act → World → Prop}
    (hg : o.guard = none) (s x : Operand) (hop : o.op = Op.call { callee := Callee.builtin Builtin.append, args := #[s, x], argTypes := #[36, 36] })
    (g : Nat) (ad : Addr) (c : Nat) (hs : a.eval s = .slice (some ⟨g, 0, none⟩) 0 0) (hx : a.eval x = .slice (some ad) 0 c)
    (hK : wpList Try.prog ops Q rest (a.put o.dst (.slice (some ⟨g, 0, none⟩) 0 0)) w) :
    wpList Try.prog ops Q (o :: rest) a w := by
  refine wpList_plain hg fun K hK' => ?_
  obtain ⟨i0, hi0, hz0, hz1, hz2⟩ := info_parts Try.info33
  have hrun := run_append_room_cells (P := Try.prog) w 36 o.type 33 i0 Try.underlying36 hi0 g 0 0 0 ad 0 c [] (by simp) (fun j u hu => by simp at hu) (by simp) (by omega) (fun j hj => by simp at hj) (fun j hj => by simp at hj)
  simp only [World.setCells, Nat.add_zero] at hrun
  unfold Oper.wp
  simp [execOp, hop, resolve, invoke, builtin, hs, hx, hrun, Result.andThen]
  exact hK' _ _ hK
theorem sl_nil (a : Addr) (L c : Nat) (w : World) : (binOp .eql 36 (.slice (some a) L c) (.slice none 0 0)).run Try.prog w = .ok (.bool false) w := by kernel_rfl
set_option maxRecDepth 100000 in
set_option maxHeartbeats 1600000 in
theorem clone_any {w : World} {ad : Addr} {cap : Nat} {l : List (Int × Int)} (hv : Ro w 2 (.slice (some ad) l.length cap) l.length (flat l)) (hN : l.length ≤ 4096) :
    Calls Try.prog 61 #[.slice (some ad) l.length cap] w fun e w' => ∃ v', e = .returned v' ∧ Gw w l v' w' := by
  have sn := sl_nil
  have hB : Below w.heap.size w (w.alloc (.cells #[] 33)) := (Below.refl _ _).alloc (Nat.le_refl _) _
  have hz : (w.alloc (.cells #[] 33)).heap.size = w.heap.size + 1 := by simp
  have hro : Ro (w.alloc (.cells #[] 33)) 2 (.slice (some ⟨w.heap.size, 0, none⟩) 0 0) 0 [] := ⟨rfl, .inr ⟨w.heap.size, 0, 0, #[], 33, rfl, heap_alloc_new w _, Nat.le_refl _, Nat.zero_le _, by simp, fun j hj => by simp at hj⟩⟩
  by_cases h0 : l.length = 0
  · obtain rfl : l = [] := List.eq_nil_of_length_eq_zero h0
    have HG : Hid (Gw w [] (.slice (some ⟨w.heap.size, 0, none⟩) 0 0) (w.alloc (.cells #[] 33))) := ⟨hro, hB, fun k hk => by simp [Value.ownBlock] at hk; omega⟩
    clear hv hB hro hN h0 hz
    simp only [List.length_nil]
    go_enter Try.func61, Try.ntmps61
    go_wp2_with (first | (at_builtin; refine wpList_app0 rfl _ _ rfl w.heap.size ad cap rfl rfl ?_))
    go_wp2_with fail
    go_ret
    exact ⟨_, rfl, unhide HG⟩
  · obtain ⟨g, off, c', e, h1, h2, h3, h4⟩ := hv.full (by omega)
    cases e
    have hlt : g < w.heap.size := h3
    have HRo := hide hro
    have HB := hide hB
    have HN : Hid (∀ j u, (flat l)[j]? = some u → (w.alloc (.cells #[] 33)).cell? ((⟨g, off, none⟩ : Addr).add j) = some u) := fun j u hu => by
      have hj : j < l.length * 2 := by have := (List.getElem?_eq_some_iff.1 hu).1; rw [flat_length] at this; exact this
      rw [Go.WideShapes.add_plain, World.cell?_of_block (a := ⟨g, off + j, none⟩) (Below.heap_alloc _ _ _ hlt), h4 j hj]
      exact hu
    have HFL := hide (flat_length l)
    have HON := hide (ones_flat l)
    obtain ⟨i0, hi0, hz0, hz1, hz2⟩ := info_parts Try.info33
    obtain ⟨L, hL⟩ : ∃ L, Hid (l.length = L) := ⟨_, rfl⟩
    rw [unhide hL] at h0 hN HFL ⊢
    clear hv hB hro h1 h2 h4
    go_enter Try.func61, Try.ntmps61
    go_wp2_with (first | (at_builtin; refine wpList_app rfl _ _ 36 rfl 33 i0 _ 2 16 Try.underlying36 hi0 hz0 hz1 hz2 rfl (by decide) (.slice (some ⟨w.heap.size, 0, none⟩) 0 0) 0 [] rfl (unhide HRo) ⟨g, off, none⟩ L cap (flat l) rfl (unhide HFL) (unhide HN) (unhide HON) (by omega) (by unfold maxLen; omega) (by omega) ?_))
    intro v' w' hr hg hat
    have HG : Hid (Gw w l v' w') := by
      have f : Fr (fun k => (Value.slice (some ⟨w.heap.size, 0, none⟩) 0 0).ownBlock = some k) (w.alloc (.cells #[] 33)) w' := (Fr.refl _ _).grown hg (fun k e => .inr e)
      refine ⟨by rw [unhide hL]; simpa using hr, (unhide HB).trans (f.below (by simp) (fun k hk e => by simp [Value.ownBlock] at e; omega)), fun k hk => ?_⟩
      rcases hat with q | q
      · rw [q] at hk; simp [Value.ownBlock] at hk; omega
      · rw [q] at hk; cases hk; first | simp | omega
    clear hr hg hat
    go_wp2_with fail
    go_ret
    exact ⟨_, rfl, unhide HG⟩
/-- A new array or bound function. -/
def newObj (k b : Nat) (iv : Value) (l : List (Int × Int)) (m : Int) : OD := { k := k, b := b, iv := iv, kv := .slice none 0 0, its := l, keys := [], m := m, shut := false }
theorem newObj_ok {w w1 : World} {l : List (Int × Int)} {v : Value} (hG : Gw w l v w1) (k : Nat) (hk : k = 6 ∨ k = 8) (m : Int) (cs : Array Value) (t : TypeId) (hcs : cs.toList = (newObj k w1.heap.size v l m).cells) :
    (newObj k w1.heap.size v l m).ok (w1.alloc (.cells cs t)) := by
  have hg := heap_alloc_new w1 (.cells cs t)
  refine ⟨by show 6 ≤ k ∧ k ≤ 9; omega, fun j u hu => ?_, fun j => frozen_new _ _ _ _, hG.1.keep (fun q hq => Below.heap_alloc _ _ _ (hG.1.lt q hq)), Ro.nil _ _, fun _ => ⟨rfl, rfl⟩⟩
  show (w1.alloc (.cells cs t)).cell? ⟨w1.heap.size, j, none⟩ = some u
  simp only [World.cell?, hg]
  rw [← hcs] at hu
  simpa using hu
theorem newRec_ok (w : World) (t : TypeId) : ({ k := 7, b := w.heap.size, iv := .slice none 0 0, kv := .slice none 0 0, its := [], keys := [], m := 0, shut := false } : OD).ok (w.alloc (.cells #[.slice none 0 0, .slice none 0 0] t)) := by
  have hg := heap_alloc_new w (.cells #[.slice none 0 0, .slice none 0 0] t)
  refine ⟨by show 6 ≤ 7 ∧ 7 ≤ 9; omega, fun j u hu => ?_, fun j => frozen_new _ _ _ _, Ro.nil _ _, Ro.nil _ _, fun h => absurd rfl h⟩
  have e1 : ({ k := 7, b := w.heap.size, iv := .slice none 0 0, kv := .slice none 0 0, its := [], keys := [], m := 0, shut := false } : OD).cells = [.slice none 0 0, .slice none 0 0] := rfl
  rw [e1] at hu
  have hj : j < 2 := (List.getElem?_eq_some_iff.1 hu).1
  show (w.alloc (.cells #[.slice none 0 0, .slice none 0 0] t)).cell? ⟨w.heap.size, j, none⟩ = some u
  simp only [World.cell?, hg]
  match j, hj with
  | 0, _ => simpa using hu
  | 1, _ => simpa using hu
set_option maxRecDepth 100000 in
set_option maxHeartbeats 3200000 in
theorem array_bad {w : World} {h : Nat} {a : Option Addr} {L c : Nat} (hL : 4096 < L) :
    Calls Try.prog 41 #[.pointer (some ⟨h, 0, none⟩), .slice a L c] w fun e w' => e = .returned (.tuple #[.agg #[.int .i64 0, .int .i64 0], .bool false]) ∧ Below w.heap.size w w' := by
  obtain ⟨x0, x1⟩ := two_new w (.int .i64 0) (.int .i64 0) 33
  have xf := frozen_new w #[.int .i64 0, .int .i64 0] 33
  have xf0 := xf 0
  have xf1 := xf 1
  have HBB : Hid (Below w.heap.size w (w.alloc (.cells #[.int .i64 0, .int .i64 0] 33))) := (Below.refl _ _).alloc (Nat.le_refl _) _
  have d1 : decide ((L : Int) > 4096) = true := decide_eq_true (by omega)
  clear xf
  obtain ⟨w2, ew⟩ : ∃ w2, w2 = w.alloc (.cells #[.int .i64 0, .int .i64 0] 33) := ⟨_, rfl⟩
  have hw2 : w.heap.size < w2.heap.size := by rw [ew]; simp
  go_enter Try.func41, Try.ntmps41
  go_wp2_with fail
  refine bodyPost_ret (v := .tuple #[.agg #[.int .i64 0, .int .i64 0], .bool false]) (by simp [results, Try.results41, go_sem, x0, x1]) rfl ?_
  exact ⟨rfl, unhide HBB⟩
set_option maxRecDepth 100000 in
set_option maxHeartbeats 3200000 in
theorem bound_bad1 {w : World} {h : Nat} {a : Option Addr} {L c : Nat} {fn : Int} (hL : fn < 0) :
    Calls Try.prog 42 #[.pointer (some ⟨h, 0, none⟩), .int .i64 fn, .slice a L c] w fun e w' => e = .returned (.tuple #[.agg #[.int .i64 0, .int .i64 0], .bool false]) ∧ Below w.heap.size w w' := by
  obtain ⟨x0, x1⟩ := two_new w (.int .i64 0) (.int .i64 0) 33
  have xf := frozen_new w #[.int .i64 0, .int .i64 0] 33
  have xf0 := xf 0
  have xf1 := xf 1
  have HBB : Hid (Below w.heap.size w (w.alloc (.cells #[.int .i64 0, .int .i64 0] 33))) := (Below.refl _ _).alloc (Nat.le_refl _) _
  have d1 : decide (fn < 0) = true := decide_eq_true (by omega)
  clear xf
  obtain ⟨w2, ew⟩ : ∃ w2, w2 = w.alloc (.cells #[.int .i64 0, .int .i64 0] 33) := ⟨_, rfl⟩
  have hw2 : w.heap.size < w2.heap.size := by rw [ew]; simp
  go_enter Try.func42, Try.ntmps42
  go_wp2_with fail
  refine bodyPost_ret (v := .tuple #[.agg #[.int .i64 0, .int .i64 0], .bool false]) (by simp [results, Try.results42, go_sem, x0, x1]) rfl ?_
  exact ⟨rfl, unhide HBB⟩
set_option maxRecDepth 100000 in
set_option maxHeartbeats 3200000 in
theorem bound_bad2 {w : World} {h : Nat} {a : Option Addr} {L c : Nat} {fn : Int} (h0 : 0 ≤ fn) (hL : 4096 < L) :
    Calls Try.prog 42 #[.pointer (some ⟨h, 0, none⟩), .int .i64 fn, .slice a L c] w fun e w' => e = .returned (.tuple #[.agg #[.int .i64 0, .int .i64 0], .bool false]) ∧ Below w.heap.size w w' := by
  obtain ⟨x0, x1⟩ := two_new w (.int .i64 0) (.int .i64 0) 33
  have xf := frozen_new w #[.int .i64 0, .int .i64 0] 33
  have xf0 := xf 0
  have xf1 := xf 1
  have HBB : Hid (Below w.heap.size w (w.alloc (.cells #[.int .i64 0, .int .i64 0] 33))) := (Below.refl _ _).alloc (Nat.le_refl _) _
  have d1 : decide ((L : Int) > 4096) = true := decide_eq_true (by omega)
  have d2 : decide (fn < 0) = false := decide_eq_false (by omega)
  clear xf
  obtain ⟨w2, ew⟩ : ∃ w2, w2 = w.alloc (.cells #[.int .i64 0, .int .i64 0] 33) := ⟨_, rfl⟩
  have hw2 : w.heap.size < w2.heap.size := by rw [ew]; simp
  go_enter Try.func42, Try.ntmps42
  go_wp2_with fail
  refine bodyPost_ret (v := .tuple #[.agg #[.int .i64 0, .int .i64 0], .bool false]) (by simp [results, Try.results42, go_sem, x0, x1]) rfl ?_
  exact ⟨rfl, unhide HBB⟩
set_option maxRecDepth 100000 in
set_option maxHeartbeats 3200000 in
theorem chan_bad1 {w : World} {h : Nat} {room : Int} (hL : room < 1) :
    Calls Try.prog 12 #[.pointer (some ⟨h, 0, none⟩), .int .i64 room] w fun e w' => e = .returned (.tuple #[.agg #[.int .i64 0, .int .i64 0], .bool false]) ∧ Below w.heap.size w w' := by
  obtain ⟨x0, x1⟩ := two_new w (.int .i64 0) (.int .i64 0) 33
  have xf := frozen_new w #[.int .i64 0, .int .i64 0] 33
  have xf0 := xf 0
  have xf1 := xf 1
  have HBB : Hid (Below w.heap.size w (w.alloc (.cells #[.int .i64 0, .int .i64 0] 33))) := (Below.refl _ _).alloc (Nat.le_refl _) _
  have d1 : decide (room < 1) = true := decide_eq_true (by omega)
  clear xf
  obtain ⟨w2, ew⟩ : ∃ w2, w2 = w.alloc (.cells #[.int .i64 0, .int .i64 0] 33) := ⟨_, rfl⟩
  have hw2 : w.heap.size < w2.heap.size := by rw [ew]; simp
  go_enter Try.func12, Try.ntmps12
  go_wp2_with fail
  refine bodyPost_ret (v := .tuple #[.agg #[.int .i64 0, .int .i64 0], .bool false]) (by simp [results, Try.results12, go_sem, x0, x1]) rfl ?_
  exact ⟨rfl, unhide HBB⟩
set_option maxRecDepth 100000 in
set_option maxHeartbeats 3200000 in
theorem chan_bad2 {w : World} {h : Nat} {room : Int} (h0 : 1 ≤ room) (hL : 64 < room) :
    Calls Try.prog 12 #[.pointer (some ⟨h, 0, none⟩), .int .i64 room] w fun e w' => e = .returned (.tuple #[.agg #[.int .i64 0, .int .i64 0], .bool false]) ∧ Below w.heap.size w w' := by
  obtain ⟨x0, x1⟩ := two_new w (.int .i64 0) (.int .i64 0) 33
  have xf := frozen_new w #[.int .i64 0, .int .i64 0] 33
  have xf0 := xf 0
  have xf1 := xf 1
  have HBB : Hid (Below w.heap.size w (w.alloc (.cells #[.int .i64 0, .int .i64 0] 33))) := (Below.refl _ _).alloc (Nat.le_refl _) _
  have d1 : decide (room > 64) = true := decide_eq_true (by omega)
  have d2 : decide (room < 1) = false := decide_eq_false (by omega)
  clear xf
  obtain ⟨w2, ew⟩ : ∃ w2, w2 = w.alloc (.cells #[.int .i64 0, .int .i64 0] 33) := ⟨_, rfl⟩
  have hw2 : w.heap.size < w2.heap.size := by rw [ew]; simp
  go_enter Try.func12, Try.ntmps12
  go_wp2_with fail
  refine bodyPost_ret (v := .tuple #[.agg #[.int .i64 0, .int .i64 0], .bool false]) (by simp [results, Try.results12, go_sem, x0, x1]) rfl ?_
  exact ⟨rfl, unhide HBB⟩
end Go.Proofs.Ytkpngfahnpidkaa
