/-
  The calls of a reader: Int, Count.
-/
import Derived.Test.YtaldacjeeccbhaaParts
import Derived.Test.YtaldacjeeccbhaaReadU
import Derived.Test.YtaldacjeeccbhaaReadI
import Derived.Test.YtaldacjeeccbhaaReadN
namespace Go.Proofs.Ytaldacjeeccbhaa
open Go.RowKit

/-- What a call of a reader answers and leaves: behind an error the zero value, and nothing is read; else what o says. -/
def rres (zero : Value) (o : Except Int (Value × List Int)) (bs : List Int) (e0 : Int) : Value × List Int × Int :=
  if e0 = 0 then (match o with | .ok (u, t) => (u, t, 0) | .error k => (zero, bs, k)) else (zero, bs, e0)
def RPost (r rb : Nat) (w : World) (p : Value × List Int × Int) (e : Ending) (w' : World) : Prop := e = .returned p.1 ∧ ∃ v2, Rdr w' r rb v2 p.2.1 p.2.2 ∧ RFr r w w'

/-- The next byte. -/
def gByte : List Int → Except Int (Value × List Int)
  | [] => .error 2
  | b :: t => .ok (.int .u8 b, t)
def gNum (f : Nat → Value) (o : Except Int (Nat × List Int)) : Except Int (Value × List Int) :=
  match o with
  | .ok (x, t) => .ok (f x, t)
  | .error k => .error k
def gWord (bs : List Int) : Except Int (Value × List Int) := if bs.length < 8 then .error 2 else .ok (.int .u64 (wnum 0 (bs.take 8)), bs.drop 8)

/-- What a part comes to. -/
def PPost (r rb : Nat) (w : World) (o : Except Int (Value × List Int)) (e : Ending) (w' : World) : Prop :=
  match o with
  | .ok (u, t) => e = .returned u ∧ ∃ v2, Rdr w' r rb v2 t 0 ∧ RFr r w w'
  | .error k => e = errPanic k ∧ ∃ v2 bs2, Rdr w' r rb v2 bs2 0 ∧ RFr r w w'

theorem PPost.of_came {r rb : Nat} {w w' : World} {f : Nat → Value} {o : Except Int (Nat × List Int)} {e : Ending} (h : Came r rb w 0 f o e w') : PPost r rb w (gNum f o) e w' := by
  rcases o with k | ⟨x, t⟩
  · exact h
  · exact h

theorem enters47 (args : Array Value) (w : World) : (callFunc 101 args).run Try.prog w = .ok (.enter 101 args) w := by kernel_rfl
theorem enters50 (args : Array Value) (w : World) : (callFunc 111 args).run Try.prog w = .ok (.enter 111 args) w := by kernel_rfl
theorem enters75 (args : Array Value) (w : World) : (callFunc 90 args).run Try.prog w = .ok (.enter 90 args) w := by kernel_rfl

theorem read8_meth (r : Nat) {rb : Nat} (v : Value) (bs : List Int) (e0 : Int) (F : Nat) (first cap : Array Value) (o : Except Int (Value × List Int)) (w : World) (h : Rdr w r rb v bs e0) (hF : ∀ args w, (callFunc F args).run Try.prog w = .ok (.enter F args) w)
    (hp : ∀ w1, RFr r w w1 → Rdr w1 r rb v bs 0 → Calls Try.prog F (first ++ cap) w1 fun e w' => PPost r rb w1 o e w') :
    Calls Try.prog 106 #[.pointer (some ⟨r, 0, none⟩), .func (Fn.func F) first cap] w fun e w' => RPost r rb w (rres (.int .u8 0) o bs e0) e w' := by
  by_cases he : e0 = 0
  · subst he
    unfold rres
    rw [if_pos rfl]
    rcases o with k | ⟨u, t⟩
    · exact (read8_fail r v bs F first cap k w h hF hp).mono fun e w' ⟨h1, h2, h3⟩ => ⟨h1, v, h2, h3⟩
    · exact (read8_ok r v bs t F first cap u w h hF hp).mono fun e w' ⟨h1, v2, h2, h3⟩ => ⟨h1, v2, h2, h3⟩
  · unfold rres
    rw [if_neg he]
    exact (read8_err r v bs e0 _ w h he).mono fun e w' ⟨h1, h2, h3⟩ => ⟨h1, v, h2, h3⟩

theorem readU_meth (r : Nat) {rb : Nat} (v : Value) (bs : List Int) (e0 : Int) (F : Nat) (first cap : Array Value) (o : Except Int (Value × List Int)) (w : World) (h : Rdr w r rb v bs e0) (hF : ∀ args w, (callFunc F args).run Try.prog w = .ok (.enter F args) w)
    (hp : ∀ w1, RFr r w w1 → Rdr w1 r rb v bs 0 → Calls Try.prog F (first ++ cap) w1 fun e w' => PPost r rb w1 o e w') :
    Calls Try.prog 113 #[.pointer (some ⟨r, 0, none⟩), .func (Fn.func F) first cap] w fun e w' => RPost r rb w (rres (.int .u64 0) o bs e0) e w' := by
  by_cases he : e0 = 0
  · subst he
    unfold rres
    rw [if_pos rfl]
    rcases o with k | ⟨u, t⟩
    · exact (readU_fail r v bs F first cap k w h hF hp).mono fun e w' ⟨h1, h2, h3⟩ => ⟨h1, v, h2, h3⟩
    · exact (readU_ok r v bs t F first cap u w h hF hp).mono fun e w' ⟨h1, v2, h2, h3⟩ => ⟨h1, v2, h2, h3⟩
  · unfold rres
    rw [if_neg he]
    exact (readU_err r v bs e0 _ w h he).mono fun e w' ⟨h1, h2, h3⟩ => ⟨h1, v, h2, h3⟩

theorem readI_meth (r : Nat) {rb : Nat} (v : Value) (bs : List Int) (e0 : Int) (F : Nat) (first cap : Array Value) (o : Except Int (Value × List Int)) (w : World) (h : Rdr w r rb v bs e0) (hF : ∀ args w, (callFunc F args).run Try.prog w = .ok (.enter F args) w)
    (hp : ∀ w1, RFr r w w1 → Rdr w1 r rb v bs 0 → Calls Try.prog F (first ++ cap) w1 fun e w' => PPost r rb w1 o e w') :
    Calls Try.prog 110 #[.pointer (some ⟨r, 0, none⟩), .func (Fn.func F) first cap] w fun e w' => RPost r rb w (rres (.int .i64 0) o bs e0) e w' := by
  by_cases he : e0 = 0
  · subst he
    unfold rres
    rw [if_pos rfl]
    rcases o with k | ⟨u, t⟩
    · exact (readI_fail r v bs F first cap k w h hF hp).mono fun e w' ⟨h1, h2, h3⟩ => ⟨h1, v, h2, h3⟩
    · exact (readI_ok r v bs t F first cap u w h hF hp).mono fun e w' ⟨h1, v2, h2, h3⟩ => ⟨h1, v2, h2, h3⟩
  · unfold rres
    rw [if_neg he]
    exact (readI_err r v bs e0 _ w h he).mono fun e w' ⟨h1, h2, h3⟩ => ⟨h1, v, h2, h3⟩

theorem readN_meth (r : Nat) {rb : Nat} (v : Value) (bs : List Int) (e0 : Int) (F : Nat) (first cap : Array Value) (o : Except Int (Value × List Int)) (w : World) (h : Rdr w r rb v bs e0) (hF : ∀ args w, (callFunc F args).run Try.prog w = .ok (.enter F args) w)
    (hp : ∀ w1, RFr r w w1 → Rdr w1 r rb v bs 0 → Calls Try.prog F (first ++ cap) w1 fun e w' => PPost r rb w1 o e w') :
    Calls Try.prog 89 #[.pointer (some ⟨r, 0, none⟩), .func (Fn.func F) first cap] w fun e w' => RPost r rb w (rres (.int .i64 0) o bs e0) e w' := by
  by_cases he : e0 = 0
  · subst he
    unfold rres
    rw [if_pos rfl]
    rcases o with k | ⟨u, t⟩
    · exact (readN_fail r v bs F first cap k w h hF hp).mono fun e w' ⟨h1, h2, h3⟩ => ⟨h1, v, h2, h3⟩
    · exact (readN_ok r v bs t F first cap u w h hF hp).mono fun e w' ⟨h1, v2, h2, h3⟩ => ⟨h1, v2, h2, h3⟩
  · unfold rres
    rw [if_neg he]
    exact (readN_err r v bs e0 _ w h he).mono fun e w' ⟨h1, h2, h3⟩ => ⟨h1, v, h2, h3⟩

theorem one_part (r : Nat) {rb : Nat} (v : Value) (bs : List Int) (w : World) (h : Rdr w r rb v bs 0) :
    Calls Try.prog 105 #[.pointer (some ⟨r, 0, none⟩)] w fun e w' => PPost r rb w (gByte bs) e w' := by
  cases bs with
  | nil => exact (one_short r v 0 w h).mono fun e w' ⟨h1, h2⟩ => ⟨h1, v, [], h2 ▸ h, h2 ▸ RFr.refl _ _⟩
  | cons b t => exact one_ok r v b t 0 w h
theorem number_part (r : Nat) {rb : Nat} (v : Value) (bs : List Int) (w : World) (h : Rdr w r rb v bs 0) (hB : BOk bs) :
    Calls Try.prog 101 #[.pointer (some ⟨r, 0, none⟩)] w fun e w' => PPost r rb w (gNum (fun x => .int .u64 x) (unum 0 0 bs)) e w' :=
  (number_any r v bs 0 w h hB).mono fun _ _ h => PPost.of_came h

set_option maxHeartbeats 400000 in
set_option maxRecDepth 100000 in
theorem rByte_any (r : Nat) {rb : Nat} (v : Value) (bs : List Int) (e0 : Int) (w : World) (h : Rdr w r rb v bs e0) :
    Calls Try.prog 102 #[.pointer (some ⟨r, 0, none⟩)] w fun e w' => RPost r rb w (rres (.int .u8 0) (gByte bs) bs e0) e w' := by
  have hmf : ∀ (fn : Fn) (first cap : Array Value) (w : World), (Instr.makeFunc fn first cap).run Try.prog w = .ok (.func fn first cap) w := fun _ _ _ _ => rfl
  have hR := hide (read8_meth r v bs e0 105 #[.pointer (some ⟨r, 0, none⟩)] #[] (gByte bs) w h enters45 (fun w1 _ h1 => one_part r v bs w1 h1))
  clear h
  go_enter Try.func102, Try.ntmps102
  go_wp2_with fail
  refine (unhide hR).mono ?_
  rintro e w' ⟨rfl, hh⟩
  have HH := hide hh
  clear hh
  go_wp2
  go_ret
  exact ⟨rfl, unhide HH⟩

set_option maxHeartbeats 400000 in
set_option maxRecDepth 100000 in
theorem rUint_any (r : Nat) {rb : Nat} (v : Value) (bs : List Int) (e0 : Int) (w : World) (h : Rdr w r rb v bs e0) (hB : BOk bs) :
    Calls Try.prog 108 #[.pointer (some ⟨r, 0, none⟩)] w fun e w' => RPost r rb w (rres (.int .u64 0) (gNum (fun x => .int .u64 x) (unum 0 0 bs)) bs e0) e w' := by
  have hmf : ∀ (fn : Fn) (first cap : Array Value) (w : World), (Instr.makeFunc fn first cap).run Try.prog w = .ok (.func fn first cap) w := fun _ _ _ _ => rfl
  have hR := hide (readU_meth r v bs e0 101 #[.pointer (some ⟨r, 0, none⟩)] #[] (gNum (fun x => .int .u64 x) (unum 0 0 bs)) w h enters47 (fun w1 _ h1 => number_part r v bs w1 h1 hB))
  clear h
  go_enter Try.func108, Try.ntmps108
  go_wp2_with fail
  refine (unhide hR).mono ?_
  rintro e w' ⟨rfl, hh⟩
  have HH := hide hh
  clear hh
  go_wp2
  go_ret
  exact ⟨rfl, unhide HH⟩



set_option maxHeartbeats 400000 in
set_option maxRecDepth 100000 in
theorem int_part (r : Nat) {rb : Nat} (v : Value) (bs : List Int) (q : Addr) (w : World) (h : Rdr w r rb v bs 0) (hB : BOk bs) (hq : w.cell? q = some (.pointer (some ⟨r, 0, none⟩))) :
    Calls Try.prog 111 #[.pointer (some q)] w fun e w' => PPost r rb w (gNum (fun x => .int .i64 (unfoldI x)) (unum 0 0 bs)) e w' := by
  have hN := hide (number_any r v bs 0 w h hB)
  rcases hu : unum 0 0 bs with k | ⟨x, t⟩
  · rw [hu] at hN
    clear h
    go_enter Try.func111, Try.ntmps111
    go_wp2_with fail
    refine (unhide hN).mono ?_
    rintro e w' ⟨rfl, hh⟩
    exact ⟨rfl, rfl, hh⟩
  · rw [hu] at hN
    have hx := (unum_lt 0 0 bs x t (by omega) (by simp) hB hu).1
    clear h hB hu
    go_enter Try.func111, Try.ntmps111
    go_wp2_with fail
    refine (unhide hN).mono ?_
    rintro e w' ⟨rfl, v2, hW, hF⟩
    have HH := hide (And.intro hW hF)
    have hU := hide (unfold_any x w' hx)
    clear hW hF
    go_wp2_with fail
    refine (unhide hU).mono ?_
    rintro e w2 ⟨rfl, rfl⟩
    go_wp2
    go_ret
    exact ⟨rfl, v2, (unhide HH).1, (unhide HH).2⟩

set_option maxHeartbeats 400000 in
set_option maxRecDepth 100000 in
theorem rInt_any (r : Nat) {rb : Nat} (v : Value) (bs : List Int) (e0 : Int) (w : World) (h : Rdr w r rb v bs e0) (hB : BOk bs) :
    Calls Try.prog 107 #[.pointer (some ⟨r, 0, none⟩)] w fun e w' => RPost r rb w (rres (.int .i64 0) (gNum (fun x => .int .i64 (unfoldI x)) (unum 0 0 bs)) bs e0) e w' := by
  have hmf : ∀ (fn : Fn) (first cap : Array Value) (w : World), (Instr.makeFunc fn first cap).run Try.prog w = .ok (.func fn first cap) w := fun _ _ _ _ => rfl
  have hr := h.lt
  have hR := hide (readI_meth r v bs e0 111 #[] #[.pointer (some ⟨w.heap.size, 0, none⟩)] (gNum (fun x => .int .i64 (unfoldI x)) (unum 0 0 bs)) (w.alloc (.cells #[.pointer (some ⟨r, 0, none⟩)] 84)) (h.alloc _) enters50
    (fun w1 hF h1 => int_part r v bs ⟨w.heap.size, 0, none⟩ w1 h1 hB (by rw [Fr.cell hF (a := ⟨w.heap.size, 0, none⟩) (by simp) (by simp; omega)]; simp)))
  clear h hB
  go_enter Try.func107, Try.ntmps107
  go_wp2_with fail
  refine (unhide hR).mono ?_
  rintro e w' ⟨rfl, v2, hW, hF⟩
  have HH := hide (And.intro hW hF)
  clear hW hF
  go_wp2
  go_ret
  exact ⟨rfl, v2, (unhide HH).1, ((Fr.refl _ _).alloc _ : RFr r w _).trans (unhide HH).2⟩

set_option maxHeartbeats 400000 in
set_option maxRecDepth 100000 in
theorem count_part (r : Nat) {rb : Nat} (v : Value) (bs : List Int) (most : Int) (q p : Addr) (w : World) (h : Rdr w r rb v bs 0) (hB : BOk bs) (hm : most ≤ 9223372036854775807) (hq : w.cell? q = some (.pointer (some ⟨r, 0, none⟩))) (hp : w.cell? p = some (.int .i64 most)) :
    Calls Try.prog 90 #[.pointer (some q), .pointer (some p)] w fun e w' => PPost r rb w (gNum (fun x => .int .i64 x) (unumMost most bs)) e w' := by
  have hN := hide (atMost_any r v bs 0 most w h hB hm)
  rcases hu : unumMost most bs with k | ⟨x, t⟩
  · rw [hu] at hN
    clear h
    go_enter Try.func90, Try.ntmps90
    go_wp2_with fail
    refine (unhide hN).mono ?_
    rintro e w' ⟨rfl, hh⟩
    exact ⟨rfl, rfl, hh⟩
  · rw [hu] at hN
    clear h hB hu
    go_enter Try.func90, Try.ntmps90
    go_wp2_with fail
    refine (unhide hN).mono ?_
    rintro e w' ⟨rfl, v2, hW, hF⟩
    have HH := hide (And.intro hW hF)
    clear hW hF
    go_wp2
    go_ret
    exact ⟨rfl, v2, (unhide HH).1, (unhide HH).2⟩

set_option maxHeartbeats 400000 in
set_option maxRecDepth 100000 in
theorem rCount_any (r : Nat) {rb : Nat} (v : Value) (bs : List Int) (e0 most : Int) (w : World) (h : Rdr w r rb v bs e0) (hB : BOk bs) (hm : most ≤ 9223372036854775807) :
    Calls Try.prog 68 #[.pointer (some ⟨r, 0, none⟩), .int .i64 most] w fun e w' => RPost r rb w (rres (.int .i64 0) (gNum (fun x => .int .i64 x) (unumMost most bs)) bs e0) e w' := by
  have hmf : ∀ (fn : Fn) (first cap : Array Value) (w : World), (Instr.makeFunc fn first cap).run Try.prog w = .ok (.func fn first cap) w := fun _ _ _ _ => rfl
  have hr := h.lt
  have hR := hide (readN_meth r v bs e0 90 #[] #[.pointer (some ⟨w.heap.size, 0, none⟩), .pointer (some ⟨w.heap.size + 1, 0, none⟩)] (gNum (fun x => .int .i64 x) (unumMost most bs))
    ((w.alloc (.cells #[.pointer (some ⟨r, 0, none⟩)] 84)).alloc (.cells #[.int .i64 most] 3)) ((h.alloc _).alloc _) enters75
    (fun w1 hF h1 => count_part r v bs most ⟨w.heap.size, 0, none⟩ ⟨w.heap.size + 1, 0, none⟩ w1 h1 hB hm
      (by rw [Fr.cell hF (a := ⟨w.heap.size, 0, none⟩) (by simp; omega) (by simp; omega)]; simp) (by rw [Fr.cell hF (a := ⟨w.heap.size + 1, 0, none⟩) (by simp) (by simp; omega)]; simp)))
  clear h hB
  go_enter Try.func68, Try.ntmps68
  go_wp2_with fail
  refine (unhide hR).mono ?_
  rintro e w' ⟨rfl, v2, hW, hF⟩
  have HH := hide (And.intro hW hF)
  clear hW hF
  go_wp2
  go_ret
  exact ⟨rfl, v2, (unhide HH).1, (RFr.alloc2 r w _ _).trans (unhide HH).2⟩
end Go.Proofs.Ytaldacjeeccbhaa
