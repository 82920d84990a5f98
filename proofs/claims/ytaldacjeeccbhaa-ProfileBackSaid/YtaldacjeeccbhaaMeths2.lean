/-
  The calls of a reader: Int, Count.
-/
import Derived.Test.YtaldacjeeccbhaaMeths
namespace Go.Proofs.Ytaldacjeeccbhaa
open Go.RowKit

set_option maxHeartbeats 400000 in
set_option maxRecDepth 100000 in
theorem int_part (r : Nat) {rb : Nat} (v : Value) (bs : List Int) (q : Addr) (w : World) (h : Rdr w r rb v bs 0) (hB : BOk bs) (hq : w.cell? q = some (.pointer (some ⟨r, 0, none⟩))) :
    Calls Try.prog 111 #[.pointer (some q)] w fun e w' => PPost r rb w (gNum (fun x => .int .i64 (unfoldI x)) (unum 0 0 bs)) e w' := by
  have hN := hide (number_any r v bs 0 w h hB)
  rcases hu : unum 0 0 bs with k | ⟨x, t⟩
  · rw [hu] at hN
    clear h
    go_enter Try.func111, Try.ntmps111
    go_wp2_with fail
    refine (unhide hN).mono ?_
    rintro e w' ⟨rfl, hh⟩
    exact ⟨rfl, rfl, hh⟩
  · rw [hu] at hN
    have hx := (unum_lt 0 0 bs x t (by omega) (by simp) hB hu).1
    clear h hB hu
    go_enter Try.func111, Try.ntmps111
    go_wp2_with fail
    refine (unhide hN).mono ?_
    rintro e w' ⟨rfl, v2, hW, hF⟩
    have HH := hide (And.intro hW hF)
    have hU := hide (unfold_any x w' hx)
    clear hW hF
    go_wp2_with fail
    refine (unhide hU).mono ?_
    rintro e w2 ⟨rfl, rfl⟩
    go_wp2
    go_ret
    exact ⟨rfl, v2, (unhide HH).1, (unhide HH).2⟩

set_option maxHeartbeats 400000 in
set_option maxRecDepth 100000 in
theorem rInt_any (r : Nat) {rb : Nat} (v : Value) (bs : List Int) (e0 : Int) (w : World) (h : Rdr w r rb v bs e0) (hB : BOk bs) :
    Calls Try.prog 107 #[.pointer (some ⟨r, 0, none⟩)] w fun e w' => RPost r rb w (rres (.int .i64 0) (gNum (fun x => .int .i64 (unfoldI x)) (unum 0 0 bs)) bs e0) e w' := by
  have hmf : ∀ (fn : Fn) (first cap : Array Value) (w : World), (Instr.makeFunc fn first cap).run Try.prog w = .ok (.func fn first cap) w := fun _ _ _ _ => rfl
  have hr := h.lt
  have hR := hide (readI_meth r v bs e0 111 #[] #[.pointer (some ⟨w.heap.size, 0, none⟩)] (gNum (fun x => .int .i64 (unfoldI x)) (unum 0 0 bs)) (w.alloc (.cells #[.pointer (some ⟨r, 0, none⟩)] 84)) (h.alloc _) enters50
    (fun w1 hF h1 => int_part r v bs ⟨w.heap.size, 0, none⟩ w1 h1 hB (by rw [Fr.cell hF (a := ⟨w.heap.size, 0, none⟩) (by simp) (by simp; omega)]; simp)))
  clear h hB
  go_enter Try.func107, Try.ntmps107
  go_wp2_with fail
  refine (unhide hR).mono ?_
  rintro e w' ⟨rfl, v2, hW, hF⟩
  have HH := hide (And.intro hW hF)
  clear hW hF
  go_wp2
  go_ret
  exact ⟨rfl, v2, (unhide HH).1, ((Fr.refl _ _).alloc _ : RFr r w _).trans (unhide HH).2⟩

set_option maxHeartbeats 400000 in
set_option maxRecDepth 100000 in
theorem count_part (r : Nat) {rb : Nat} (v : Value) (bs : List Int) (most : Int) (q p : Addr) (w : World) (h : Rdr w r rb v bs 0) (hB : BOk bs) (hm : most ≤ 9223372036854775807) (hq : w.cell? q = some (.pointer (some ⟨r, 0, none⟩))) (hp : w.cell? p = some (.int .i64 most)) :
    Calls Try.prog 90 #[.pointer (some q), .pointer (some p)] w fun e w' => PPost r rb w (gNum (fun x => .int .i64 x) (unumMost most bs)) e w' := by
  have hN := hide (atMost_any r v bs 0 most w h hB hm)
  rcases hu : unumMost most bs with k | ⟨x, t⟩
  · rw [hu] at hN
    clear h
    go_enter Try.func90, Try.ntmps90
    go_wp2_with fail
    refine (unhide hN).mono ?_
    rintro e w' ⟨rfl, hh⟩
    exact ⟨rfl, rfl, hh⟩
  · rw [hu] at hN
    clear h hB hu
    go_enter Try.func90, Try.ntmps90
    go_wp2_with fail
    refine (unhide hN).mono ?_
    rintro e w' ⟨rfl, v2, hW, hF⟩
    have HH := hide (And.intro hW hF)
    clear hW hF
    go_wp2
    go_ret
    exact ⟨rfl, v2, (unhide HH).1, (unhide HH).2⟩

set_option maxHeartbeats 400000 in
set_option maxRecDepth 100000 in
theorem rCount_any (r : Nat) {rb : Nat} (v : Value) (bs : List Int) (e0 most : Int) (w : World) (h : Rdr w r rb v bs e0) (hB : BOk bs) (hm : most ≤ 9223372036854775807) :
    Calls Try.prog 68 #[.pointer (some ⟨r, 0, none⟩), .int .i64 most] w fun e w' => RPost r rb w (rres (.int .i64 0) (gNum (fun x => .int .i64 x) (unumMost most bs)) bs e0) e w' := by
  have hmf : ∀ (fn : Fn) (first cap : Array Value) (w : World), (Instr.makeFunc fn first cap).run Try.prog w = .ok (.func fn first cap) w := fun _ _ _ _ => rfl
  have hr := h.lt
  have hR := hide (readN_meth r v bs e0 90 #[] #[.pointer (some ⟨w.heap.size, 0, none⟩), .pointer (some ⟨w.heap.size + 1, 0, none⟩)] (gNum (fun x => .int .i64 x) (unumMost most bs))
    ((w.alloc (.cells #[.pointer (some ⟨r, 0, none⟩)] 84)).alloc (.cells #[.int .i64 most] 3)) ((h.alloc _).alloc _) enters75
    (fun w1 hF h1 => count_part r v bs most ⟨w.heap.size, 0, none⟩ ⟨w.heap.size + 1, 0, none⟩ w1 h1 hB hm
      (by rw [Fr.cell hF (a := ⟨w.heap.size, 0, none⟩) (by simp; omega) (by simp; omega)]; simp) (by rw [Fr.cell hF (a := ⟨w.heap.size + 1, 0, none⟩) (by simp) (by simp; omega)]; simp)))
  clear h hB
  go_enter Try.func68, Try.ntmps68
  go_wp2_with fail
  refine (unhide hR).mono ?_
  rintro e w' ⟨rfl, v2, hW, hF⟩
  have HH := hide (And.intro hW hF)
  clear hW hF
  go_wp2
  go_ret
  exact ⟨rfl, v2, (unhide HH).1, (RFr.alloc2 r w _ _).trans (unhide HH).2⟩
end Go.Proofs.Ytaldacjeeccbhaa
