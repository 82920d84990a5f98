/-
  What makes an object: with and without room.
-/
import Derived.Test.YtkpngfahnpidkaaPMake0
namespace Go.Proofs.Ytkpngfahnpidkaa
open Go.RowKit
set_option linter.unusedVariables false
set_option linter.unusedSimpArgs false

set_option maxRecDepth 100000 in
set_option maxHeartbeats 3200000 in
theorem array_ok {w : World} {h : Nat} {bud sp : Int} {ov : Value} {os : List OD} (H : Hp w h bud sp ov os) (hb : 0 ≤ bud ∧ bud < 9223372036854775808) (hs : 0 ≤ sp ∧ sp < 9223372036854775808) {ad : Addr} {cap : Nat} {l : List (Int × Int)} (hro : Ro w 2 (.slice (some ad) l.length cap) l.length (flat l)) (hN : l.length ≤ 4096)  (hr : 2 + (l.length : Int) ≤ bud - sp) (hL : os.length ≤ 4000000000000) :
    Calls Try.prog 41 #[.pointer (some ⟨h, 0, none⟩), .slice (some ad) l.length cap] w fun e w' => e = .returned (.tuple #[.agg #[.int .i64 6, .int .i64 (os.length : Int)], .bool true]) ∧ ∃ o : OD, o.k = 6 ∧ o.its = l ∧ o.keys = [] ∧ o.m = 0 ∧ o.shut = false ∧ Now w h bud sp ov os w' (sp + (2 + (l.length : Int))) (os ++ [o]) := by
  have hB1 : Below w.heap.size w (w.alloc (.cells #[.int .i64 0, .int .i64 0] 33)) := (Below.refl _ _).alloc (Nat.le_refl _) _
  have H0 := H.below hB1
  have HCL := hide (clone_any (hro.keep (w' := w.alloc (.cells #[.int .i64 0, .int .i64 0] 33)) (fun q hq => Below.heap_alloc _ _ _ (hro.lt q hq))) hN)
  have hlt := H.lt
  have HLT := hide hlt
  have hl := H.hlt
  obtain ⟨r0, r1⟩ := two_new w (.int .i64 0) (.int .i64 0) 33
  have rf := frozen_new w #[.int .i64 0, .int .i64 0] 33
  have HNEXT := hide (fun (v1 : Value) (w1 : World) (hG : Gw (w.alloc (.cells #[.int .i64 0, .int .i64 0] 33)) l v1 w1) => by
    have hs1 := hG.2.1.size
    have hz : (w.alloc (.cells #[.int .i64 0, .int .i64 0] 33)).heap.size = w.heap.size + 1 := by simp
    have hB2 : Below (w.alloc (.cells #[.int .i64 0, .int .i64 0] 33)).heap.size (w.alloc (.cells #[.int .i64 0, .int .i64 0] 33)) (w1.alloc (.cells #[v1] 85)) := hG.2.1.trans (((Below.refl _ w1).alloc (Nat.le_refl _) _).mono hs1)
    have hok := newObj_ok hG 6 (by omega) 0 #[v1] 85 rfl
    have hm : ∀ k, (newObj 6 w1.heap.size v1 l 0).mine k → w.heap.size < k := fun k hk => by
      rcases hk with e | e | e
      · have : k = w1.heap.size := e
        omega
      · have := hG.2.2 k e
        omega
      · simp [newObj, Value.ownBlock] at e
    have ho1 : (newObj 6 w1.heap.size v1 l 0).iv.ownBlock ≠ some (newObj 6 w1.heap.size v1 l 0).b ∧ (newObj 6 w1.heap.size v1 l 0).kv.ownBlock ≠ some (newObj 6 w1.heap.size v1 l 0).b ∧ ∀ k, (newObj 6 w1.heap.size v1 l 0).iv.ownBlock = some k → (newObj 6 w1.heap.size v1 l 0).kv.ownBlock ≠ some k := by
      refine ⟨fun e => ?_, by simp [newObj, Value.ownBlock], fun k _ => by simp [newObj, Value.ownBlock]⟩
      have := hG.1.lt w1.heap.size e
      omega
    have epr : (newObj 6 w1.heap.size v1 l 0).price = 2 + (l.length : Int) := rfl
    have hpr : (newObj 6 w1.heap.size v1 l 0).price < 9223372036854775808 ∧ -9223372036854775808 ≤ (newObj 6 w1.heap.size v1 l 0).price := by rw [epr]; omega
    have hBB := hB1.trans (hB2.mono (by omega))
    have hzz : w.heap.size < (w1.alloc (.cells #[v1] 85)).heap.size := by simp; omega
    have q0 := (hB2.cell (p := ⟨w.heap.size, 0, none⟩) (by show w.heap.size < _; omega)).trans r0
    have q1 := (hB2.cell (p := ⟨w.heap.size, 1, none⟩) (by show w.heap.size < _; omega)).trans r1
    have qf := fun j => (World.frozen?_of_block (a := ⟨w.heap.size, j, none⟩) (hB2.block _ (by show w.heap.size < _; omega))).trans (rf j)
    exact And.intro (lay6_ok (H0.below hB2) hb hs hok rfl hpr (by rw [epr]; omega) (by rw [epr]; exact hr) (fun k hk hf => by have a1 := hlt k hf; have a2 := hm k hk; omega) ho1 hL) (And.intro hm (And.intro hBB (And.intro hzz (And.intro q0 (And.intro q1 qf))))))
  have d1 : decide ((l.length : Int) > 4096) = false := decide_eq_false (by omega)
  clear H H0 hB1 hlt hro r0 r1 rf
  go_enter Try.func41, Try.ntmps41
  go_wp2_with fail
  refine (unhide HCL).mono ?_
  rintro e1 w1 ⟨v1, rfl, hG⟩
  obtain ⟨hLAY, hm, hBB, hzz, q0, q1, qf⟩ := unhide HNEXT v1 w1 hG
  have HLAY := hide hLAY
  have HM := hide hm
  have HB := hide hBB
  have HZ := hide hzz
  have HQF := hide qf
  obtain ⟨va, vc, rfl, _⟩ := hG.1.shape
  clear hLAY hm hBB hzz qf hG HNEXT
  go_wp2_with fail
  refine (unhide HLAY).mono ?_
  rintro e2 w3 ⟨rfl, L⟩
  obtain ⟨g0, g1, g2⟩ := L.cell (b := w.heap.size) (unhide HZ) (fun e => by have := unhide HLT _ e; omega)
  have x0 := (g0 0).trans q0
  have x1 := (g0 1).trans q1
  have xf0 := (g1 0).trans (unhide HQF 0)
  have xf1 := (g1 1).trans (unhide HQF 1)
  have HLL := hide L
  clear L g0 g1 q0 q1
  go_wp2_with fail
  obtain ⟨z0, z1, zf⟩ := put2 x0 x1 (.int .i64 6) (.int .i64 (os.length : Int))
  have ZF := hide zf
  clear zf x0 x1 xf0 xf1
  generalize (w3.setCell ⟨w.heap.size, 0, none⟩ (.int .i64 6)).setCell ⟨w.heap.size, 1, none⟩ (.int .i64 (os.length : Int)) = W8 at *
  refine bodyPost_ret (v := .tuple #[.agg #[.int .i64 6, .int .i64 (os.length : Int)], .bool true]) (by simp [results, Try.results41, go_sem, z0, z1]) rfl ?_
  exact ⟨rfl, _, rfl, rfl, rfl, rfl, rfl, Now.of_laid (unhide HB) (unhide HLT) (unhide HLL) (unhide HM) (unhide HZ) (unhide ZF)⟩
set_option maxRecDepth 100000 in
set_option maxHeartbeats 3200000 in
theorem bound_ok {w : World} {h : Nat} {bud sp : Int} {ov : Value} {os : List OD} (H : Hp w h bud sp ov os) (hb : 0 ≤ bud ∧ bud < 9223372036854775808) (hs : 0 ≤ sp ∧ sp < 9223372036854775808) {ad : Addr} {cap : Nat} {l : List (Int × Int)} {fn : Int} (hro : Ro w 2 (.slice (some ad) l.length cap) l.length (flat l)) (hN : l.length ≤ 4096) (hfn : 0 ≤ fn) (hr : 2 + (l.length : Int) ≤ bud - sp) (hL : os.length ≤ 4000000000000) :
    Calls Try.prog 42 #[.pointer (some ⟨h, 0, none⟩), .int .i64 fn, .slice (some ad) l.length cap] w fun e w' => e = .returned (.tuple #[.agg #[.int .i64 8, .int .i64 (os.length : Int)], .bool true]) ∧ ∃ o : OD, o.k = 8 ∧ o.its = l ∧ o.keys = [] ∧ o.m = fn ∧ o.shut = false ∧ Now w h bud sp ov os w' (sp + (2 + (l.length : Int))) (os ++ [o]) := by
  have hB1 : Below w.heap.size w (w.alloc (.cells #[.int .i64 0, .int .i64 0] 33)) := (Below.refl _ _).alloc (Nat.le_refl _) _
  have H0 := H.below hB1
  have HCL := hide (clone_any (hro.keep (w' := w.alloc (.cells #[.int .i64 0, .int .i64 0] 33)) (fun q hq => Below.heap_alloc _ _ _ (hro.lt q hq))) hN)
  have hlt := H.lt
  have HLT := hide hlt
  have hl := H.hlt
  obtain ⟨r0, r1⟩ := two_new w (.int .i64 0) (.int .i64 0) 33
  have rf := frozen_new w #[.int .i64 0, .int .i64 0] 33
  have HNEXT := hide (fun (v1 : Value) (w1 : World) (hG : Gw (w.alloc (.cells #[.int .i64 0, .int .i64 0] 33)) l v1 w1) => by
    have hs1 := hG.2.1.size
    have hz : (w.alloc (.cells #[.int .i64 0, .int .i64 0] 33)).heap.size = w.heap.size + 1 := by simp
    have hB2 : Below (w.alloc (.cells #[.int .i64 0, .int .i64 0] 33)).heap.size (w.alloc (.cells #[.int .i64 0, .int .i64 0] 33)) (w1.alloc (.cells #[.int .i64 fn, v1] 111)) := hG.2.1.trans (((Below.refl _ w1).alloc (Nat.le_refl _) _).mono hs1)
    have hok := newObj_ok hG 8 (by omega) fn #[.int .i64 fn, v1] 111 rfl
    have hm : ∀ k, (newObj 8 w1.heap.size v1 l fn).mine k → w.heap.size < k := fun k hk => by
      rcases hk with e | e | e
      · have : k = w1.heap.size := e
        omega
      · have := hG.2.2 k e
        omega
      · simp [newObj, Value.ownBlock] at e
    have ho1 : (newObj 8 w1.heap.size v1 l fn).iv.ownBlock ≠ some (newObj 8 w1.heap.size v1 l fn).b ∧ (newObj 8 w1.heap.size v1 l fn).kv.ownBlock ≠ some (newObj 8 w1.heap.size v1 l fn).b ∧ ∀ k, (newObj 8 w1.heap.size v1 l fn).iv.ownBlock = some k → (newObj 8 w1.heap.size v1 l fn).kv.ownBlock ≠ some k := by
      refine ⟨fun e => ?_, by simp [newObj, Value.ownBlock], fun k _ => by simp [newObj, Value.ownBlock]⟩
      have := hG.1.lt w1.heap.size e
      omega
    have epr : (newObj 8 w1.heap.size v1 l fn).price = 2 + (l.length : Int) := rfl
    have hpr : (newObj 8 w1.heap.size v1 l fn).price < 9223372036854775808 ∧ -9223372036854775808 ≤ (newObj 8 w1.heap.size v1 l fn).price := by rw [epr]; omega
    have hBB := hB1.trans (hB2.mono (by omega))
    have hzz : w.heap.size < (w1.alloc (.cells #[.int .i64 fn, v1] 111)).heap.size := by simp; omega
    have q0 := (hB2.cell (p := ⟨w.heap.size, 0, none⟩) (by show w.heap.size < _; omega)).trans r0
    have q1 := (hB2.cell (p := ⟨w.heap.size, 1, none⟩) (by show w.heap.size < _; omega)).trans r1
    have qf := fun j => (World.frozen?_of_block (a := ⟨w.heap.size, j, none⟩) (hB2.block _ (by show w.heap.size < _; omega))).trans (rf j)
    exact And.intro (lay8_ok (H0.below hB2) hb hs hok rfl hpr (by rw [epr]; omega) (by rw [epr]; exact hr) (fun k hk hf => by have a1 := hlt k hf; have a2 := hm k hk; omega) ho1 hL) (And.intro hm (And.intro hBB (And.intro hzz (And.intro q0 (And.intro q1 qf))))))
  have d1 : decide ((l.length : Int) > 4096) = false := decide_eq_false (by omega)
  have d2 : decide (fn < 0) = false := decide_eq_false (by omega)
  clear H H0 hB1 hlt hro r0 r1 rf
  go_enter Try.func42, Try.ntmps42
  go_wp2_with fail
  refine (unhide HCL).mono ?_
  rintro e1 w1 ⟨v1, rfl, hG⟩
  obtain ⟨hLAY, hm, hBB, hzz, q0, q1, qf⟩ := unhide HNEXT v1 w1 hG
  have HLAY := hide hLAY
  have HM := hide hm
  have HB := hide hBB
  have HZ := hide hzz
  have HQF := hide qf
  obtain ⟨va, vc, rfl, _⟩ := hG.1.shape
  clear hLAY hm hBB hzz qf hG HNEXT
  go_wp2_with fail
  refine (unhide HLAY).mono ?_
  rintro e2 w3 ⟨rfl, L⟩
  obtain ⟨g0, g1, g2⟩ := L.cell (b := w.heap.size) (unhide HZ) (fun e => by have := unhide HLT _ e; omega)
  have x0 := (g0 0).trans q0
  have x1 := (g0 1).trans q1
  have xf0 := (g1 0).trans (unhide HQF 0)
  have xf1 := (g1 1).trans (unhide HQF 1)
  have HLL := hide L
  clear L g0 g1 q0 q1
  go_wp2_with fail
  obtain ⟨z0, z1, zf⟩ := put2 x0 x1 (.int .i64 8) (.int .i64 (os.length : Int))
  have ZF := hide zf
  clear zf x0 x1 xf0 xf1
  generalize (w3.setCell ⟨w.heap.size, 0, none⟩ (.int .i64 8)).setCell ⟨w.heap.size, 1, none⟩ (.int .i64 (os.length : Int)) = W8 at *
  refine bodyPost_ret (v := .tuple #[.agg #[.int .i64 8, .int .i64 (os.length : Int)], .bool true]) (by simp [results, Try.results42, go_sem, z0, z1]) rfl ?_
  exact ⟨rfl, _, rfl, rfl, rfl, rfl, rfl, Now.of_laid (unhide HB) (unhide HLT) (unhide HLL) (unhide HM) (unhide HZ) (unhide ZF)⟩
set_option maxRecDepth 100000 in
set_option maxHeartbeats 3200000 in
theorem array_no {w : World} {h : Nat} {bud sp : Int} {ov : Value} {os : List OD} (H : Hp w h bud sp ov os) (hb : 0 ≤ bud ∧ bud < 9223372036854775808) (hs : 0 ≤ sp ∧ sp < 9223372036854775808) {ad : Addr} {cap : Nat} {l : List (Int × Int)} (hro : Ro w 2 (.slice (some ad) l.length cap) l.length (flat l)) (hN : l.length ≤ 4096)  (hr : bud - sp < 2 + (l.length : Int)) :
    Calls Try.prog 41 #[.pointer (some ⟨h, 0, none⟩), .slice (some ad) l.length cap] w fun e w' => e = .returned (.tuple #[.agg #[.int .i64 0, .int .i64 0], .bool false]) ∧ Below w.heap.size w w' := by
  have hB1 : Below w.heap.size w (w.alloc (.cells #[.int .i64 0, .int .i64 0] 33)) := (Below.refl _ _).alloc (Nat.le_refl _) _
  have H0 := H.below hB1
  have HCL := hide (clone_any (hro.keep (w' := w.alloc (.cells #[.int .i64 0, .int .i64 0] 33)) (fun q hq => Below.heap_alloc _ _ _ (hro.lt q hq))) hN)
  have hlt := H.lt
  have HLT := hide hlt
  have hl := H.hlt
  obtain ⟨r0, r1⟩ := two_new w (.int .i64 0) (.int .i64 0) 33
  have rf := frozen_new w #[.int .i64 0, .int .i64 0] 33
  have HNEXT := hide (fun (v1 : Value) (w1 : World) (hG : Gw (w.alloc (.cells #[.int .i64 0, .int .i64 0] 33)) l v1 w1) => by
    have hs1 := hG.2.1.size
    have hz : (w.alloc (.cells #[.int .i64 0, .int .i64 0] 33)).heap.size = w.heap.size + 1 := by simp
    have hB2 : Below (w.alloc (.cells #[.int .i64 0, .int .i64 0] 33)).heap.size (w.alloc (.cells #[.int .i64 0, .int .i64 0] 33)) (w1.alloc (.cells #[v1] 85)) := hG.2.1.trans (((Below.refl _ w1).alloc (Nat.le_refl _) _).mono hs1)
    have hok := newObj_ok hG 6 (by omega) 0 #[v1] 85 rfl
    have hm : ∀ k, (newObj 6 w1.heap.size v1 l 0).mine k → w.heap.size < k := fun k hk => by
      rcases hk with e | e | e
      · have : k = w1.heap.size := e
        omega
      · have := hG.2.2 k e
        omega
      · simp [newObj, Value.ownBlock] at e
    have ho1 : (newObj 6 w1.heap.size v1 l 0).iv.ownBlock ≠ some (newObj 6 w1.heap.size v1 l 0).b ∧ (newObj 6 w1.heap.size v1 l 0).kv.ownBlock ≠ some (newObj 6 w1.heap.size v1 l 0).b ∧ ∀ k, (newObj 6 w1.heap.size v1 l 0).iv.ownBlock = some k → (newObj 6 w1.heap.size v1 l 0).kv.ownBlock ≠ some k := by
      refine ⟨fun e => ?_, by simp [newObj, Value.ownBlock], fun k _ => by simp [newObj, Value.ownBlock]⟩
      have := hG.1.lt w1.heap.size e
      omega
    have epr : (newObj 6 w1.heap.size v1 l 0).price = 2 + (l.length : Int) := rfl
    have hpr : (newObj 6 w1.heap.size v1 l 0).price < 9223372036854775808 ∧ -9223372036854775808 ≤ (newObj 6 w1.heap.size v1 l 0).price := by rw [epr]; omega
    have hBB := hB1.trans (hB2.mono (by omega))
    have hzz : w.heap.size < (w1.alloc (.cells #[v1] 85)).heap.size := by simp; omega
    have q0 := (hB2.cell (p := ⟨w.heap.size, 0, none⟩) (by show w.heap.size < _; omega)).trans r0
    have q1 := (hB2.cell (p := ⟨w.heap.size, 1, none⟩) (by show w.heap.size < _; omega)).trans r1
    have qf := fun j => (World.frozen?_of_block (a := ⟨w.heap.size, j, none⟩) (hB2.block _ (by show w.heap.size < _; omega))).trans (rf j)
    exact And.intro (lay6_no (H0.below hB2) hb hs hok rfl hpr (.inr (by rw [epr]; exact hr))) (And.intro hm (And.intro hBB (And.intro hzz (And.intro q0 (And.intro q1 qf))))))
  have d1 : decide ((l.length : Int) > 4096) = false := decide_eq_false (by omega)
  clear H H0 hB1 hlt hro r0 r1 rf
  go_enter Try.func41, Try.ntmps41
  go_wp2_with fail
  refine (unhide HCL).mono ?_
  rintro e1 w1 ⟨v1, rfl, hG⟩
  obtain ⟨hLAY, hm, hBB, hzz, q0, q1, qf⟩ := unhide HNEXT v1 w1 hG
  have HLAY := hide hLAY
  have HM := hide hm
  have HB := hide hBB
  have HZ := hide hzz
  have HQF := hide qf
  obtain ⟨va, vc, rfl, _⟩ := hG.1.shape
  clear hLAY hm hBB hzz qf hG HNEXT
  go_wp2_with fail
  refine (unhide HLAY).mono ?_
  rintro e2 w3 ⟨rfl, b3⟩
  have hzz := unhide HZ
  have x0 := (b3.cell (p := ⟨w.heap.size, 0, none⟩) hzz).trans q0
  have x1 := (b3.cell (p := ⟨w.heap.size, 1, none⟩) hzz).trans q1
  have xf0 := (World.frozen?_of_block (a := ⟨w.heap.size, 0, none⟩) (b3.block _ hzz)).trans (unhide HQF 0)
  have xf1 := (World.frozen?_of_block (a := ⟨w.heap.size, 1, none⟩) (b3.block _ hzz)).trans (unhide HQF 1)
  have hz3 : w.heap.size < w3.heap.size := Nat.lt_of_lt_of_le hzz b3.size
  have HBB := hide ((unhide HB).trans (b3.mono (unhide HB).size))
  clear b3 q0 q1 hzz
  go_wp2_with fail
  obtain ⟨z0, z1, zf⟩ := put2 x0 x1 (.int .i64 0) (.int .i64 0)
  have ZF := hide zf
  clear zf x0 x1 xf0 xf1
  generalize (w3.setCell ⟨w.heap.size, 0, none⟩ (.int .i64 0)).setCell ⟨w.heap.size, 1, none⟩ (.int .i64 0) = W8 at *
  refine bodyPost_ret (v := .tuple #[.agg #[.int .i64 0, .int .i64 0], .bool false]) (by simp [results, Try.results41, go_sem, z0, z1]) rfl ?_
  exact ⟨rfl, (unhide HBB).trans ((unhide ZF).below (unhide HBB).size (fun k hk e => by omega))⟩
set_option maxRecDepth 100000 in
set_option maxHeartbeats 3200000 in
theorem bound_no {w : World} {h : Nat} {bud sp : Int} {ov : Value} {os : List OD} (H : Hp w h bud sp ov os) (hb : 0 ≤ bud ∧ bud < 9223372036854775808) (hs : 0 ≤ sp ∧ sp < 9223372036854775808) {ad : Addr} {cap : Nat} {l : List (Int × Int)} {fn : Int} (hro : Ro w 2 (.slice (some ad) l.length cap) l.length (flat l)) (hN : l.length ≤ 4096) (hfn : 0 ≤ fn) (hr : bud - sp < 2 + (l.length : Int)) :
    Calls Try.prog 42 #[.pointer (some ⟨h, 0, none⟩), .int .i64 fn, .slice (some ad) l.length cap] w fun e w' => e = .returned (.tuple #[.agg #[.int .i64 0, .int .i64 0], .bool false]) ∧ Below w.heap.size w w' := by
  have hB1 : Below w.heap.size w (w.alloc (.cells #[.int .i64 0, .int .i64 0] 33)) := (Below.refl _ _).alloc (Nat.le_refl _) _
  have H0 := H.below hB1
  have HCL := hide (clone_any (hro.keep (w' := w.alloc (.cells #[.int .i64 0, .int .i64 0] 33)) (fun q hq => Below.heap_alloc _ _ _ (hro.lt q hq))) hN)
  have hlt := H.lt
  have HLT := hide hlt
  have hl := H.hlt
  obtain ⟨r0, r1⟩ := two_new w (.int .i64 0) (.int .i64 0) 33
  have rf := frozen_new w #[.int .i64 0, .int .i64 0] 33
  have HNEXT := hide (fun (v1 : Value) (w1 : World) (hG : Gw (w.alloc (.cells #[.int .i64 0, .int .i64 0] 33)) l v1 w1) => by
    have hs1 := hG.2.1.size
    have hz : (w.alloc (.cells #[.int .i64 0, .int .i64 0] 33)).heap.size = w.heap.size + 1 := by simp
    have hB2 : Below (w.alloc (.cells #[.int .i64 0, .int .i64 0] 33)).heap.size (w.alloc (.cells #[.int .i64 0, .int .i64 0] 33)) (w1.alloc (.cells #[.int .i64 fn, v1] 111)) := hG.2.1.trans (((Below.refl _ w1).alloc (Nat.le_refl _) _).mono hs1)
    have hok := newObj_ok hG 8 (by omega) fn #[.int .i64 fn, v1] 111 rfl
    have hm : ∀ k, (newObj 8 w1.heap.size v1 l fn).mine k → w.heap.size < k := fun k hk => by
      rcases hk with e | e | e
      · have : k = w1.heap.size := e
        omega
      · have := hG.2.2 k e
        omega
      · simp [newObj, Value.ownBlock] at e
    have ho1 : (newObj 8 w1.heap.size v1 l fn).iv.ownBlock ≠ some (newObj 8 w1.heap.size v1 l fn).b ∧ (newObj 8 w1.heap.size v1 l fn).kv.ownBlock ≠ some (newObj 8 w1.heap.size v1 l fn).b ∧ ∀ k, (newObj 8 w1.heap.size v1 l fn).iv.ownBlock = some k → (newObj 8 w1.heap.size v1 l fn).kv.ownBlock ≠ some k := by
      refine ⟨fun e => ?_, by simp [newObj, Value.ownBlock], fun k _ => by simp [newObj, Value.ownBlock]⟩
      have := hG.1.lt w1.heap.size e
      omega
    have epr : (newObj 8 w1.heap.size v1 l fn).price = 2 + (l.length : Int) := rfl
    have hpr : (newObj 8 w1.heap.size v1 l fn).price < 9223372036854775808 ∧ -9223372036854775808 ≤ (newObj 8 w1.heap.size v1 l fn).price := by rw [epr]; omega
    have hBB := hB1.trans (hB2.mono (by omega))
    have hzz : w.heap.size < (w1.alloc (.cells #[.int .i64 fn, v1] 111)).heap.size := by simp; omega
    have q0 := (hB2.cell (p := ⟨w.heap.size, 0, none⟩) (by show w.heap.size < _; omega)).trans r0
    have q1 := (hB2.cell (p := ⟨w.heap.size, 1, none⟩) (by show w.heap.size < _; omega)).trans r1
    have qf := fun j => (World.frozen?_of_block (a := ⟨w.heap.size, j, none⟩) (hB2.block _ (by show w.heap.size < _; omega))).trans (rf j)
    exact And.intro (lay8_no (H0.below hB2) hb hs hok rfl hpr (.inr (by rw [epr]; exact hr))) (And.intro hm (And.intro hBB (And.intro hzz (And.intro q0 (And.intro q1 qf))))))
  have d1 : decide ((l.length : Int) > 4096) = false := decide_eq_false (by omega)
  have d2 : decide (fn < 0) = false := decide_eq_false (by omega)
  clear H H0 hB1 hlt hro r0 r1 rf
  go_enter Try.func42, Try.ntmps42
  go_wp2_with fail
  refine (unhide HCL).mono ?_
  rintro e1 w1 ⟨v1, rfl, hG⟩
  obtain ⟨hLAY, hm, hBB, hzz, q0, q1, qf⟩ := unhide HNEXT v1 w1 hG
  have HLAY := hide hLAY
  have HM := hide hm
  have HB := hide hBB
  have HZ := hide hzz
  have HQF := hide qf
  obtain ⟨va, vc, rfl, _⟩ := hG.1.shape
  clear hLAY hm hBB hzz qf hG HNEXT
  go_wp2_with fail
  refine (unhide HLAY).mono ?_
  rintro e2 w3 ⟨rfl, b3⟩
  have hzz := unhide HZ
  have x0 := (b3.cell (p := ⟨w.heap.size, 0, none⟩) hzz).trans q0
  have x1 := (b3.cell (p := ⟨w.heap.size, 1, none⟩) hzz).trans q1
  have xf0 := (World.frozen?_of_block (a := ⟨w.heap.size, 0, none⟩) (b3.block _ hzz)).trans (unhide HQF 0)
  have xf1 := (World.frozen?_of_block (a := ⟨w.heap.size, 1, none⟩) (b3.block _ hzz)).trans (unhide HQF 1)
  have hz3 : w.heap.size < w3.heap.size := Nat.lt_of_lt_of_le hzz b3.size
  have HBB := hide ((unhide HB).trans (b3.mono (unhide HB).size))
  clear b3 q0 q1 hzz
  go_wp2_with fail
  obtain ⟨z0, z1, zf⟩ := put2 x0 x1 (.int .i64 0) (.int .i64 0)
  have ZF := hide zf
  clear zf x0 x1 xf0 xf1
  generalize (w3.setCell ⟨w.heap.size, 0, none⟩ (.int .i64 0)).setCell ⟨w.heap.size, 1, none⟩ (.int .i64 0) = W8 at *
  refine bodyPost_ret (v := .tuple #[.agg #[.int .i64 0, .int .i64 0], .bool false]) (by simp [results, Try.results42, go_sem, z0, z1]) rfl ?_
  exact ⟨rfl, (unhide HBB).trans ((unhide ZF).below (unhide HBB).size (fun k hk e => by omega))⟩
set_option maxRecDepth 100000 in
set_option maxHeartbeats 3200000 in
theorem record_ok {w : World} {h : Nat} {bud sp : Int} {ov : Value} {os : List OD} (H : Hp w h bud sp ov os) (hb : 0 ≤ bud ∧ bud < 9223372036854775808) (hs : 0 ≤ sp ∧ sp < 9223372036854775808)   (hr : 2 ≤ bud - sp) (hL : os.length ≤ 4000000000000) :
    Calls Try.prog 19 #[.pointer (some ⟨h, 0, none⟩)] w fun e w' => e = .returned (.tuple #[.agg #[.int .i64 7, .int .i64 (os.length : Int)], .bool true]) ∧ ∃ o : OD, o.k = 7 ∧ o.its = [] ∧ o.keys = [] ∧ Now w h bud sp ov os w' (sp + (2)) (os ++ [o]) := by
  have hB : Below w.heap.size w ((w.alloc (.cells #[.int .i64 0, .int .i64 0] 33)).alloc (.cells #[.slice none 0 0, .slice none 0 0] 88)) := ((Below.refl _ _).alloc (Nat.le_refl _) _).alloc (by simp) _
  have hz1 : (w.alloc (.cells #[.int .i64 0, .int .i64 0] 33)).heap.size = w.heap.size + 1 := by simp
  have hok := newRec_ok (w.alloc (.cells #[.int .i64 0, .int .i64 0] 33)) 88
  rw [hz1] at hok
  have hlt := H.lt
  have hm : ∀ k, ({ k := 7, b := w.heap.size + 1, iv := .slice none 0 0, kv := .slice none 0 0, its := [], keys := [], m := 0, shut := false } : OD).mine k → w.heap.size < k := fun k hk => by
    rcases hk with e | e | e
    · have : k = w.heap.size + 1 := e
      omega
    · simp [newChan, Value.ownBlock] at e
    · simp [newChan, Value.ownBlock] at e
  have epr : ({ k := 7, b := w.heap.size + 1, iv := .slice none 0 0, kv := .slice none 0 0, its := [], keys := [], m := 0, shut := false } : OD).price = 2 := rfl
  have hpr : ({ k := 7, b := w.heap.size + 1, iv := .slice none 0 0, kv := .slice none 0 0, its := [], keys := [], m := 0, shut := false } : OD).price < 9223372036854775808 ∧ -9223372036854775808 ≤ ({ k := 7, b := w.heap.size + 1, iv := .slice none 0 0, kv := .slice none 0 0, its := [], keys := [], m := 0, shut := false } : OD).price := by rw [epr]; omega
  have HLAY := hide (lay7_ok (H.below hB) hb hs hok rfl hpr (by rw [epr]; omega) (by rw [epr]; exact hr) (fun k hk hf => by have a1 := hlt k hf; have a2 := hm k hk; omega) (by simp [newChan, Value.ownBlock]) hL)
  obtain ⟨r0, r1⟩ := two_new w (.int .i64 0) (.int .i64 0) 33
  have q0 : ((w.alloc (.cells #[.int .i64 0, .int .i64 0] 33)).alloc (.cells #[.slice none 0 0, .slice none 0 0] 88)).cell? ⟨w.heap.size, 0, none⟩ = some (.int .i64 0) := (World.cell?_of_block (Below.heap_alloc _ _ _ (by simp))).trans r0
  have q1 : ((w.alloc (.cells #[.int .i64 0, .int .i64 0] 33)).alloc (.cells #[.slice none 0 0, .slice none 0 0] 88)).cell? ⟨w.heap.size, 1, none⟩ = some (.int .i64 0) := (World.cell?_of_block (Below.heap_alloc _ _ _ (by simp))).trans r1
  have HQF : Hid (∀ j, ((w.alloc (.cells #[.int .i64 0, .int .i64 0] 33)).alloc (.cells #[.slice none 0 0, .slice none 0 0] 88)).frozen? ⟨w.heap.size, j, none⟩ = false) := fun j => (World.frozen?_of_block (Below.heap_alloc _ _ _ (by simp))).trans (frozen_new _ _ _ j)
  have HB := hide hB
  have HLT := hide hlt
  have HM := hide hm
  have hl := H.hlt
  have HZ : Hid (w.heap.size < ((w.alloc (.cells #[.int .i64 0, .int .i64 0] 33)).alloc (.cells #[.slice none 0 0, .slice none 0 0] 88)).heap.size) := by unfold Hid; simp <;> omega
  clear H hB hlt hm hok hz1 r0 r1 epr hpr
  go_enter Try.func19, Try.ntmps19
  go_wp2_with fail
  refine (unhide HLAY).mono ?_
  rintro e1 w3 ⟨rfl, L⟩
  obtain ⟨g0, g1, g2⟩ := L.cell (b := w.heap.size) (unhide HZ) (fun e => by have := unhide HLT _ e; omega)
  have x0 := (g0 0).trans q0
  have x1 := (g0 1).trans q1
  have xf0 := (g1 0).trans (unhide HQF 0)
  have xf1 := (g1 1).trans (unhide HQF 1)
  have HLL := hide L
  clear L g0 g1 q0 q1
  go_wp2_with fail
  obtain ⟨z0, z1, zf⟩ := put2 x0 x1 (.int .i64 7) (.int .i64 (os.length : Int))
  have ZF := hide zf
  clear zf x0 x1 xf0 xf1
  generalize (w3.setCell ⟨w.heap.size, 0, none⟩ (.int .i64 7)).setCell ⟨w.heap.size, 1, none⟩ (.int .i64 (os.length : Int)) = W8 at *
  refine bodyPost_ret (v := .tuple #[.agg #[.int .i64 7, .int .i64 (os.length : Int)], .bool true]) (by simp [results, Try.results19, go_sem, z0, z1]) rfl ?_
  exact ⟨rfl, _, rfl, rfl, rfl, Now.of_laid (unhide HB) (unhide HLT) (unhide HLL) (unhide HM) (unhide HZ) (unhide ZF)⟩
set_option maxRecDepth 100000 in
set_option maxHeartbeats 3200000 in
theorem record_no {w : World} {h : Nat} {bud sp : Int} {ov : Value} {os : List OD} (H : Hp w h bud sp ov os) (hb : 0 ≤ bud ∧ bud < 9223372036854775808) (hs : 0 ≤ sp ∧ sp < 9223372036854775808)   (hr : bud - sp < 2) :
    Calls Try.prog 19 #[.pointer (some ⟨h, 0, none⟩)] w fun e w' => e = .returned (.tuple #[.agg #[.int .i64 0, .int .i64 0], .bool false]) ∧ Below w.heap.size w w' := by
  have hB : Below w.heap.size w ((w.alloc (.cells #[.int .i64 0, .int .i64 0] 33)).alloc (.cells #[.slice none 0 0, .slice none 0 0] 88)) := ((Below.refl _ _).alloc (Nat.le_refl _) _).alloc (by simp) _
  have hz1 : (w.alloc (.cells #[.int .i64 0, .int .i64 0] 33)).heap.size = w.heap.size + 1 := by simp
  have hok := newRec_ok (w.alloc (.cells #[.int .i64 0, .int .i64 0] 33)) 88
  rw [hz1] at hok
  have hlt := H.lt
  have hm : ∀ k, ({ k := 7, b := w.heap.size + 1, iv := .slice none 0 0, kv := .slice none 0 0, its := [], keys := [], m := 0, shut := false } : OD).mine k → w.heap.size < k := fun k hk => by
    rcases hk with e | e | e
    · have : k = w.heap.size + 1 := e
      omega
    · simp [newChan, Value.ownBlock] at e
    · simp [newChan, Value.ownBlock] at e
  have epr : ({ k := 7, b := w.heap.size + 1, iv := .slice none 0 0, kv := .slice none 0 0, its := [], keys := [], m := 0, shut := false } : OD).price = 2 := rfl
  have hpr : ({ k := 7, b := w.heap.size + 1, iv := .slice none 0 0, kv := .slice none 0 0, its := [], keys := [], m := 0, shut := false } : OD).price < 9223372036854775808 ∧ -9223372036854775808 ≤ ({ k := 7, b := w.heap.size + 1, iv := .slice none 0 0, kv := .slice none 0 0, its := [], keys := [], m := 0, shut := false } : OD).price := by rw [epr]; omega
  have HLAY := hide (lay7_no (H.below hB) hb hs hok rfl hpr (.inr (by rw [epr]; exact hr)))
  obtain ⟨r0, r1⟩ := two_new w (.int .i64 0) (.int .i64 0) 33
  have q0 : ((w.alloc (.cells #[.int .i64 0, .int .i64 0] 33)).alloc (.cells #[.slice none 0 0, .slice none 0 0] 88)).cell? ⟨w.heap.size, 0, none⟩ = some (.int .i64 0) := (World.cell?_of_block (Below.heap_alloc _ _ _ (by simp))).trans r0
  have q1 : ((w.alloc (.cells #[.int .i64 0, .int .i64 0] 33)).alloc (.cells #[.slice none 0 0, .slice none 0 0] 88)).cell? ⟨w.heap.size, 1, none⟩ = some (.int .i64 0) := (World.cell?_of_block (Below.heap_alloc _ _ _ (by simp))).trans r1
  have HQF : Hid (∀ j, ((w.alloc (.cells #[.int .i64 0, .int .i64 0] 33)).alloc (.cells #[.slice none 0 0, .slice none 0 0] 88)).frozen? ⟨w.heap.size, j, none⟩ = false) := fun j => (World.frozen?_of_block (Below.heap_alloc _ _ _ (by simp))).trans (frozen_new _ _ _ j)
  have HB := hide hB
  have HLT := hide hlt
  have HM := hide hm
  have hl := H.hlt
  have HZ : Hid (w.heap.size < ((w.alloc (.cells #[.int .i64 0, .int .i64 0] 33)).alloc (.cells #[.slice none 0 0, .slice none 0 0] 88)).heap.size) := by unfold Hid; simp <;> omega
  clear H hB hlt hm hok hz1 r0 r1 epr hpr
  go_enter Try.func19, Try.ntmps19
  go_wp2_with fail
  refine (unhide HLAY).mono ?_
  rintro e1 w3 ⟨rfl, b3⟩
  have hzz := unhide HZ
  have x0 := (b3.cell (p := ⟨w.heap.size, 0, none⟩) hzz).trans q0
  have x1 := (b3.cell (p := ⟨w.heap.size, 1, none⟩) hzz).trans q1
  have xf0 := (World.frozen?_of_block (a := ⟨w.heap.size, 0, none⟩) (b3.block _ hzz)).trans (unhide HQF 0)
  have xf1 := (World.frozen?_of_block (a := ⟨w.heap.size, 1, none⟩) (b3.block _ hzz)).trans (unhide HQF 1)
  have hz3 : w.heap.size < w3.heap.size := Nat.lt_of_lt_of_le hzz b3.size
  have HBB := hide ((unhide HB).trans (b3.mono (unhide HB).size))
  clear b3 q0 q1 hzz
  go_wp2_with fail
  obtain ⟨z0, z1, zf⟩ := put2 x0 x1 (.int .i64 0) (.int .i64 0)
  have ZF := hide zf
  clear zf x0 x1 xf0 xf1
  generalize (w3.setCell ⟨w.heap.size, 0, none⟩ (.int .i64 0)).setCell ⟨w.heap.size, 1, none⟩ (.int .i64 0) = W8 at *
  refine bodyPost_ret (v := .tuple #[.agg #[.int .i64 0, .int .i64 0], .bool false]) (by simp [results, Try.results19, go_sem, z0, z1]) rfl ?_
  exact ⟨rfl, (unhide HBB).trans ((unhide ZF).below (unhide HBB).size (fun k hk e => by omega))⟩
set_option maxRecDepth 100000 in
set_option maxHeartbeats 3200000 in
theorem chan_no {w : World} {h : Nat} {bud sp : Int} {ov : Value} {os : List OD} (H : Hp w h bud sp ov os) (hb : 0 ≤ bud ∧ bud < 9223372036854775808) (hs : 0 ≤ sp ∧ sp < 9223372036854775808) {room : Int} (h1 : 1 ≤ room) (h2 : room ≤ 64) (hr : bud - sp < 2 + room) :
    Calls Try.prog 12 #[.pointer (some ⟨h, 0, none⟩), .int .i64 room] w fun e w' => e = .returned (.tuple #[.agg #[.int .i64 0, .int .i64 0], .bool false]) ∧ Below w.heap.size w w' := by
  have hB : Below w.heap.size w ((w.alloc (.cells #[.int .i64 0, .int .i64 0] 33)).alloc (.cells #[.int .i64 room, .slice none 0 0, .bool false] 77)) := ((Below.refl _ _).alloc (Nat.le_refl _) _).alloc (by simp) _
  have hz1 : (w.alloc (.cells #[.int .i64 0, .int .i64 0] 33)).heap.size = w.heap.size + 1 := by simp
  have hok := newChan_ok (w.alloc (.cells #[.int .i64 0, .int .i64 0] 33)) room 77
  rw [hz1] at hok
  have hlt := H.lt
  have hm : ∀ k, (newChan (w.heap.size + 1) room).mine k → w.heap.size < k := fun k hk => by
    rcases hk with e | e | e
    · have : k = w.heap.size + 1 := e
      omega
    · simp [newChan, Value.ownBlock] at e
    · simp [newChan, Value.ownBlock] at e
  have epr : (newChan (w.heap.size + 1) room).price = 2 + room := rfl
  have hpr : (newChan (w.heap.size + 1) room).price < 9223372036854775808 ∧ -9223372036854775808 ≤ (newChan (w.heap.size + 1) room).price := by rw [epr]; omega
  have HLAY := hide (lay9_no (H.below hB) hb hs hok rfl hpr (.inr (by rw [epr]; exact hr)))
  obtain ⟨r0, r1⟩ := two_new w (.int .i64 0) (.int .i64 0) 33
  have q0 : ((w.alloc (.cells #[.int .i64 0, .int .i64 0] 33)).alloc (.cells #[.int .i64 room, .slice none 0 0, .bool false] 77)).cell? ⟨w.heap.size, 0, none⟩ = some (.int .i64 0) := (World.cell?_of_block (Below.heap_alloc _ _ _ (by simp))).trans r0
  have q1 : ((w.alloc (.cells #[.int .i64 0, .int .i64 0] 33)).alloc (.cells #[.int .i64 room, .slice none 0 0, .bool false] 77)).cell? ⟨w.heap.size, 1, none⟩ = some (.int .i64 0) := (World.cell?_of_block (Below.heap_alloc _ _ _ (by simp))).trans r1
  have HQF : Hid (∀ j, ((w.alloc (.cells #[.int .i64 0, .int .i64 0] 33)).alloc (.cells #[.int .i64 room, .slice none 0 0, .bool false] 77)).frozen? ⟨w.heap.size, j, none⟩ = false) := fun j => (World.frozen?_of_block (Below.heap_alloc _ _ _ (by simp))).trans (frozen_new _ _ _ j)
  have HB := hide hB
  have HLT := hide hlt
  have HM := hide hm
  have hl := H.hlt
  have d1 : decide (room < 1) = false := decide_eq_false (by omega)
  have d2 : decide (room > 64) = false := decide_eq_false (by omega)
  have HZ : Hid (w.heap.size < ((w.alloc (.cells #[.int .i64 0, .int .i64 0] 33)).alloc (.cells #[.int .i64 room, .slice none 0 0, .bool false] 77)).heap.size) := by unfold Hid; simp <;> omega
  clear H hB hlt hm hok hz1 r0 r1 epr hpr
  go_enter Try.func12, Try.ntmps12
  go_wp2_with fail
  refine (unhide HLAY).mono ?_
  rintro e1 w3 ⟨rfl, b3⟩
  have hzz := unhide HZ
  have x0 := (b3.cell (p := ⟨w.heap.size, 0, none⟩) hzz).trans q0
  have x1 := (b3.cell (p := ⟨w.heap.size, 1, none⟩) hzz).trans q1
  have xf0 := (World.frozen?_of_block (a := ⟨w.heap.size, 0, none⟩) (b3.block _ hzz)).trans (unhide HQF 0)
  have xf1 := (World.frozen?_of_block (a := ⟨w.heap.size, 1, none⟩) (b3.block _ hzz)).trans (unhide HQF 1)
  have hz3 : w.heap.size < w3.heap.size := Nat.lt_of_lt_of_le hzz b3.size
  have HBB := hide ((unhide HB).trans (b3.mono (unhide HB).size))
  clear b3 q0 q1 hzz
  go_wp2_with fail
  obtain ⟨z0, z1, zf⟩ := put2 x0 x1 (.int .i64 0) (.int .i64 0)
  have ZF := hide zf
  clear zf x0 x1 xf0 xf1
  generalize (w3.setCell ⟨w.heap.size, 0, none⟩ (.int .i64 0)).setCell ⟨w.heap.size, 1, none⟩ (.int .i64 0) = W8 at *
  refine bodyPost_ret (v := .tuple #[.agg #[.int .i64 0, .int .i64 0], .bool false]) (by simp [results, Try.results12, go_sem, z0, z1]) rfl ?_
  exact ⟨rfl, (unhide HBB).trans ((unhide ZF).below (unhide HBB).size (fun k hk e => by omega))⟩
end Go.Proofs.Ytkpngfahnpidkaa
