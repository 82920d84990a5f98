/-
  Chan; Pick.
-/
import Derived.Test.YtkpngfahnpidkaaHLay
namespace Go.Proofs.Ytkpngfahnpidkaa
open Go.RowKit
set_option linter.unusedVariables false

theorem Now.of_laid {w W1 w2 w3 : World} {h : Nat} {bud sp sp' : Int} {ov : Value} {os : List OD} {o : OD} (hB : Below w.heap.size w W1) (hlt : ∀ k, Fts h ov os k → k < w.heap.size) (L : Laid W1 h bud ov os o w2 sp') (hm : ∀ k, o.mine k → w.heap.size < k) (hz : w.heap.size < W1.heap.size) (fz : Fr (fun k => k = w.heap.size) w2 w3) :
    Now w h bud sp ov os w3 sp' (os ++ [o]) := by
  obtain ⟨ov', N, f, hF⟩ := L
  have fa : Fr (Fts h ov os) w w2 := (Fr.of_below hB).trans f
  refine ⟨ov', N.keep fz (fun k hk e => ?_), ?_, fun k hk => ?_⟩
  · rcases hF k hk with q | q | q
    · have := hlt k q; omega
    · have := hm k q; omega
    · omega
  · refine ⟨fz.os.trans fa.os, fz.tape.trans fa.tape, fz.output.trans fa.output, Nat.le_trans fa.size fz.size, fun k hk hn => ?_⟩
    rw [fz.block k (Nat.lt_of_lt_of_le hk fa.size) (by omega)]
    exact fa.block k hk hn
  · rcases hF k hk with q | q | q
    · exact .inl q
    · exact .inr (Nat.le_of_lt (hm k q))
    · exact .inr (by omega)
theorem Laid.cell {W1 w2 : World} {h : Nat} {bud sp' : Int} {ov : Value} {os : List OD} {o : OD} (L : Laid W1 h bud ov os o w2 sp') {b : Nat} (hb : b < W1.heap.size) (hn : ¬ Fts h ov os b) :
    (∀ j, w2.cell? ⟨b, j, none⟩ = W1.cell? ⟨b, j, none⟩) ∧ (∀ j, w2.frozen? ⟨b, j, none⟩ = W1.frozen? ⟨b, j, none⟩) ∧ b < w2.heap.size := by
  obtain ⟨ov', _, f, _⟩ := L
  exact ⟨fun j => f.cell (a := ⟨b, j, none⟩) hb hn, fun j => f.frozen (a := ⟨b, j, none⟩) hb hn, Nat.lt_of_lt_of_le hb f.size⟩
/-- A new, empty channel. -/
def newChan (b : Nat) (room : Int) : OD := { k := 9, b := b, iv := .slice none 0 0, kv := .slice none 0 0, its := [], keys := [], m := room, shut := false }
theorem frozen_new (w : World) (cs : Array Value) (t : TypeId) (j : Nat) : (w.alloc (.cells cs t)).frozen? ⟨w.heap.size, j, none⟩ = false := by
  have := heap_alloc_new w (.cells cs t)
  unfold World.frozen?
  simp only
  rw [this]
  simp
theorem newChan_ok (w : World) (room : Int) (t : TypeId) : (newChan w.heap.size room).ok (w.alloc (.cells #[.int .i64 room, .slice none 0 0, .bool false] t)) := by
  have hg := heap_alloc_new w (.cells #[.int .i64 room, .slice none 0 0, .bool false] t)
  refine ⟨by simp [newChan], fun j u hu => ?_, fun j => frozen_new _ _ _ _, Ro.nil _ _, Ro.nil _ _, fun _ => ⟨rfl, rfl⟩⟩
  have e1 : (newChan w.heap.size room).cells = [.int .i64 room, .slice none 0 0, .bool false] := rfl
  rw [e1] at hu
  have hj : j < 3 := (List.getElem?_eq_some_iff.1 hu).1
  show (w.alloc (.cells #[.int .i64 room, .slice none 0 0, .bool false] t)).cell? ⟨w.heap.size, j, none⟩ = some u
  simp only [World.cell?, hg]
  match j, hj with
  | 0, _ => simpa using hu
  | 1, _ => simpa using hu
  | 2, _ => simpa using hu
set_option maxRecDepth 100000 in
set_option maxHeartbeats 3200000 in
theorem chan_ok {w : World} {h : Nat} {bud sp : Int} {ov : Value} {os : List OD} (H : Hp w h bud sp ov os) (hb : 0 ≤ bud ∧ bud < 9223372036854775808) (hs : 0 ≤ sp ∧ sp < 9223372036854775808) (room : Int) (h1 : 1 ≤ room) (h2 : room ≤ 64) (hr : 2 + room ≤ bud - sp) (hL : os.length ≤ 4000000000000) :
    Calls Try.prog 12 #[.pointer (some ⟨h, 0, none⟩), .int .i64 room] w fun e w' => e = .returned (.tuple #[.agg #[.int .i64 9, .int .i64 (os.length : Int)], .bool true]) ∧ ∃ b, Now w h bud sp ov os w' (sp + (2 + room)) (os ++ [newChan b room]) := by
  have hB : Below w.heap.size w ((w.alloc (.cells #[.int .i64 0, .int .i64 0] 33)).alloc (.cells #[.int .i64 room, .slice none 0 0, .bool false] 77)) := ((Below.refl _ _).alloc (Nat.le_refl _) _).alloc (by simp) _
  have hz1 : (w.alloc (.cells #[.int .i64 0, .int .i64 0] 33)).heap.size = w.heap.size + 1 := by simp
  have hz2 : ((w.alloc (.cells #[.int .i64 0, .int .i64 0] 33)).alloc (.cells #[.int .i64 room, .slice none 0 0, .bool false] 77)).heap.size = w.heap.size + 2 := by simp
  have hok := newChan_ok (w.alloc (.cells #[.int .i64 0, .int .i64 0] 33)) room 77
  rw [hz1] at hok
  have hlt := H.lt
  have hm : ∀ k, (newChan (w.heap.size + 1) room).mine k → k = w.heap.size + 1 := fun k hk => by
    rcases hk with e | e | e
    · exact e
    · simp [newChan, Value.ownBlock] at e
    · simp [newChan, Value.ownBlock] at e
  have HLAY := hide (lay9_ok (H.below hB) hb hs hok rfl (by show 2 + room < _ ∧ _ ≤ 2 + room; omega) (by show 0 ≤ 2 + room; omega) hr (fun k hk hf => by have h1 := hlt k hf; have h2 := hm k hk; omega) (by simp [newChan, Value.ownBlock]) hL)
  obtain ⟨r0, r1⟩ := two_new w (.int .i64 0) (.int .i64 0) 33
  have q0 : ((w.alloc (.cells #[.int .i64 0, .int .i64 0] 33)).alloc (.cells #[.int .i64 room, .slice none 0 0, .bool false] 77)).cell? ⟨w.heap.size, 0, none⟩ = some (.int .i64 0) := (World.cell?_of_block (Below.heap_alloc _ _ _ (by simp))).trans r0
  have q1 : ((w.alloc (.cells #[.int .i64 0, .int .i64 0] 33)).alloc (.cells #[.int .i64 room, .slice none 0 0, .bool false] 77)).cell? ⟨w.heap.size, 1, none⟩ = some (.int .i64 0) := (World.cell?_of_block (Below.heap_alloc _ _ _ (by simp))).trans r1
  have HQF : Hid (∀ j, ((w.alloc (.cells #[.int .i64 0, .int .i64 0] 33)).alloc (.cells #[.int .i64 room, .slice none 0 0, .bool false] 77)).frozen? ⟨w.heap.size, j, none⟩ = false) := fun j => (World.frozen?_of_block (Below.heap_alloc _ _ _ (by simp))).trans (frozen_new _ _ _ j)
  have HB := hide hB
  have HLT := hide hlt
  have HM := hide hm
  have hl := H.hlt
  have d1 : decide (room < 1) = false := decide_eq_false (by omega)
  have d2 : decide (room > 64) = false := decide_eq_false (by omega)
  have HZ := hide hz2
  clear H hB hlt hm hok hz1 hz2 r0 r1
  go_enter Try.func12, Try.ntmps12
  go_wp2_with fail
  refine (unhide HLAY).mono ?_
  rintro e1 w2 ⟨rfl, L⟩
  obtain ⟨g0, g1, g2⟩ := L.cell (b := w.heap.size) (by rw [unhide HZ]; omega) (fun e => by have := unhide HLT _ e; omega)
  have x0 := (g0 0).trans q0
  have x1 := (g0 1).trans q1
  have xf0 := (g1 0).trans (unhide HQF 0)
  have xf1 := (g1 1).trans (unhide HQF 1)
  have HLL := hide L
  clear L g0 g1 q0 q1
  go_wp2_with fail
  obtain ⟨z0, z1, zf⟩ := put2 x0 x1 (.int .i64 9) (.int .i64 (os.length : Int))
  have ZF := hide zf
  clear zf x0 x1 xf0 xf1
  generalize (w2.setCell ⟨w.heap.size, 0, none⟩ (.int .i64 9)).setCell ⟨w.heap.size, 1, none⟩ (.int .i64 (os.length : Int)) = W8 at *
  refine bodyPost_ret (v := .tuple #[.agg #[.int .i64 9, .int .i64 (os.length : Int)], .bool true]) (by simp [results, Try.results12, go_sem, z0, z1]) rfl ?_
  exact ⟨rfl, _, Now.of_laid (unhide HB) (unhide HLT) (unhide HLL) (fun k hk => by have := unhide HM k hk; omega) (by rw [unhide HZ]; omega) (unhide ZF)⟩

/-- What Pick answers. -/
def pick (z : Int) (n : Nat) : Nat := (z % (n : Int)).toNat
theorem pick_lt (z : Int) {n : Nat} (h : 0 < n) : pick z n < n := by
  unfold pick
  have h1 := Int.emod_nonneg z (show (n : Int) ≠ 0 by omega)
  have h2 := Int.emod_lt_of_pos z (show (0 : Int) < (n : Int) by omega)
  omega
theorem ret_int {k : IntKind} {a b : Int} (h : a = b) : Ending.returned (.int k a) = .returned (.int k b) := by rw [h]
theorem pick_val (z : Int) {n : Nat} (h : 0 < n) : ((pick z n : Nat) : Int) = z % (n : Int) := by
  unfold pick
  have h1 := Int.emod_nonneg z (show (n : Int) ≠ 0 by omega)
  omega
theorem tmodN (z : Int) {n : Nat} (h : 0 < n) : (z.tmod (n : Int) = z % (n : Int) ∧ 0 ≤ z.tmod (n : Int)) ∨ (z.tmod (n : Int) = z % (n : Int) - (n : Int) ∧ z.tmod (n : Int) < 0) := by
  have h1 := Int.emod_nonneg z (show (n : Int) ≠ 0 by omega)
  have h2 := Int.emod_lt_of_pos z (show (0 : Int) < (n : Int) by omega)
  have h3 := @Int.tmod_eq_emod z (n : Int)
  by_cases c : 0 ≤ z ∨ (n : Int) ∣ z
  · rw [if_pos c] at h3
    left; omega
  · rw [if_neg c] at h3
    right
    simp only [Int.natAbs_natCast] at h3
    omega
set_option maxRecDepth 100000 in
set_option maxHeartbeats 800000 in
theorem pick_any (w : World) (z : Int) (n : Nat) (h0 : 0 < n) (hN : n ≤ 4611686018427387904) : Calls Try.prog 11 #[.int .i64 z, .int .i64 (n : Int)] w fun e w' => e = .returned (.int .i64 ((pick z n : Nat) : Int)) ∧ w' = w := by
  have hp := pick_val z h0
  have h2 := Int.emod_lt_of_pos z (show (0 : Int) < (n : Int) by omega)
  have hz : ¬ ((n : Int) = 0) := by omega
  have h1 : decide ((n : Int) < 1) = false := decide_eq_false (by omega)
  by_cases hn : Int.tmod z n < 0
  · have e : ((pick z n : Nat) : Int) = Int.tmod z n + n := by
      rcases tmodN z h0 with ⟨h1, h2⟩ | ⟨h1, h2⟩ <;> omega
    have hb : -(n : Int) ≤ Int.tmod z n := by omega
    rw [e]
    clear hp e h2
    go_enter Try.func11, Try.ntmps11
    go_wp2
    all_goals go_ret
    all_goals first | exact ⟨rfl, rfl⟩ | (refine ⟨ret_int ?_, rfl⟩; omega)
  · have e : ((pick z n : Nat) : Int) = Int.tmod z n := by
      rcases tmodN z h0 with ⟨h1, h2⟩ | ⟨h1, h2⟩ <;> omega
    rw [e]
    clear hp e h2
    have hn' : decide (Int.tmod z n < 0) = false := decide_eq_false hn
    go_enter Try.func11, Try.ntmps11
    go_wp2
    all_goals go_ret
    all_goals first | exact ⟨rfl, rfl⟩ | (refine ⟨ret_int ?_, rfl⟩; omega)
end Go.Proofs.Ytkpngfahnpidkaa
