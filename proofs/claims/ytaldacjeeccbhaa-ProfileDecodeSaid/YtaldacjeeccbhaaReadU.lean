/-
  read, at another kind.
-/
import Derived.Test.YtaldacjeeccbhaaRead8
namespace Go.Proofs.Ytaldacjeeccbhaa
open Go.RowKit

theorem catch_idleU (p q : Addr) (w : World) :
    CallsD Try.prog 115 #[.pointer (some p), .pointer (some q)] .returning w fun e u' w' => e = .returned (.tuple #[]) ∧ u' = .returning ∧ w' = w := by
  refine callsD_of_wpS Try.func115 rfl fun c₀ cs hu => ?_
  apply wpS_seq
  apply wpS_region
  simp [wpOpsS, go_sem, recoverD, hu, Try.ntmps115, Exit.thenS, ta_nil]
  apply wpS_seq
  apply wpS_region
  simp [wpOpsS, go_sem, Exit.thenS]
  refine wpS_cond (t := false) (by simp [Act.eval, Array.replicate]) ?_
  simp only [Bool.false_eq_true, if_false]
  refine wpS_of_wp (wp_skip ?_)
  cases c₀
  simp_all [bodyPostS, results, Try.results115]

set_option maxHeartbeats 400000 in
set_option maxRecDepth 100000 in
theorem catch_panickingU (r : Nat) (p q : Addr) (u0 : Value) (a0 : Option Addr) (l0 c0 : Nat) (x0 k : Int) (w : World) (hp : w.cell? p = some (.slice a0 l0 c0)) (hq : w.cell? q = some (.pointer (some ⟨r, 0, none⟩)))
    (h0 : w.cell? ⟨r, 0, none⟩ = some u0) (h1 : w.cell? ⟨r, 1, none⟩ = some (.int .i64 x0)) (f0 : w.frozen? ⟨r, 0, none⟩ = false) (f1 : w.frozen? ⟨r, 1, none⟩ = false) :
    CallsD Try.prog 115 #[.pointer (some p), .pointer (some q)] (.panicking [{ v := .iface 36 (.int .i64 k), recovered := false }]) w fun e u' w' =>
      e = .returned (.tuple #[]) ∧ u' = .panicking [{ v := .iface 36 (.int .i64 k), recovered := true }] ∧ w' = (w.setCell ⟨r, 0, none⟩ (.slice a0 l0 c0)).setCell ⟨r, 1, none⟩ (.int .i64 k) := by
  refine callsD_of_wpS Try.func115 rfl fun c₀ cs hu => ?_
  apply wpS_seq
  apply wpS_region
  simp [wpOpsS, go_sem, recoverD, hu, Try.ntmps115, Exit.thenS, ta_err]
  apply wpS_seq
  apply wpS_region
  simp [wpOpsS, go_sem, Exit.thenS]
  refine wpS_cond (t := true) (by simp [Act.eval, Array.replicate]) ?_
  simp only [if_true]
  simp [Array.replicate]
  refine wpS_of_wp ?_
  go_wp2
  exact ⟨rfl, _, rfl, _, by simp [results, Try.results115], rfl, rfl, rfl⟩

set_option maxHeartbeats 800000 in
set_option maxRecDepth 100000 in
theorem readU_ok (r : Nat) {rb : Nat} (v : Value) (bs bs' : List Int) (F : Nat) (first cap : Array Value) (val : Value) (w : World) (h : Rdr w r rb v bs 0) (hF : ∀ args w, (callFunc F args).run Try.prog w = .ok (.enter F args) w)
    (hp : ∀ w1, RFr r w w1 → Rdr w1 r rb v bs 0 → Calls Try.prog F (first ++ cap) w1 fun e w' => e = .returned val ∧ ∃ v2, Rdr w' r rb v2 bs' 0 ∧ RFr r w1 w') :
    Calls Try.prog 113 #[.pointer (some ⟨r, 0, none⟩), .func (Fn.func F) first cap] w fun e w' => e = .returned val ∧ ∃ v2, Rdr w' r rb v2 bs' 0 ∧ RFr r w w' := by
  have hmf : ∀ (fn : Fn) (first cap : Array Value) (w : World), (Instr.makeFunc fn first cap).run Try.prog w = .ok (.func fn first cap) w := fun _ _ _ _ => rfl
  have c0 := h.c0
  have c1 := h.c1
  have hr := h.lt
  have HP := hide hp
  have H := hide h
  obtain ⟨a0, cap0, rfl⟩ := h.shape
  clear h hp
  go_enter_defers Try.func113, Try.ntmps113
  go_wp2_with fail
  refine (unhide HP _ (RFr.alloc2 _ _ _ _) (((unhide H).alloc _).alloc _)).mono ?_
  rintro e w' ⟨rfl, v2, hW, hR⟩
  have HH := hide (And.intro hW hR)
  clear hW hR
  go_wp2
  refine leaves_cons (f := 115) (args := #[.pointer (some ⟨w.heap.size + 1, 0, none⟩), .pointer (some ⟨w.heap.size, 0, none⟩)]) (by simp) (by simp [go_sem]) ?_
  refine (catch_idleU _ _ _).mono ?_
  rintro e u' w'' ⟨rfl, rfl, rfl⟩
  exact ⟨_, results_tmp rfl _ _ _, rfl, v2, (unhide HH).1, (RFr.alloc2 _ _ _ _).trans (unhide HH).2⟩

set_option maxHeartbeats 800000 in
set_option maxRecDepth 100000 in
theorem readU_fail (r : Nat) {rb : Nat} (v : Value) (bs : List Int) (F : Nat) (first cap : Array Value) (k : Int) (w : World) (h : Rdr w r rb v bs 0) (hF : ∀ args w, (callFunc F args).run Try.prog w = .ok (.enter F args) w)
    (hp : ∀ w1, RFr r w w1 → Rdr w1 r rb v bs 0 → Calls Try.prog F (first ++ cap) w1 fun e w' => e = errPanic k ∧ ∃ v2 bs2, Rdr w' r rb v2 bs2 0 ∧ RFr r w1 w') :
    Calls Try.prog 113 #[.pointer (some ⟨r, 0, none⟩), .func (Fn.func F) first cap] w fun e w' => e = .returned (.int .u64 0) ∧ Rdr w' r rb v bs k ∧ RFr r w w' := by
  have hmf : ∀ (fn : Fn) (first cap : Array Value) (w : World), (Instr.makeFunc fn first cap).run Try.prog w = .ok (.func fn first cap) w := fun _ _ _ _ => rfl
  have c0 := h.c0
  have c1 := h.c1
  have hr := h.lt
  have HP := hide hp
  have H := hide h
  obtain ⟨a0, cap0, rfl⟩ := h.shape
  clear h hp
  go_enter_defers Try.func113, Try.ntmps113
  go_wp2_with fail
  refine (unhide HP _ (RFr.alloc2 _ _ _ _) (((unhide H).alloc _).alloc _)).mono ?_
  rintro e w' ⟨rfl, v2, bs2, hW, hR⟩
  have HH := hide (And.intro hW hR)
  clear hW hR
  refine leaves_cons (f := 115) (args := #[.pointer (some ⟨w.heap.size + 1, 0, none⟩), .pointer (some ⟨w.heap.size, 0, none⟩)]) (by simp) (by simp [go_sem]) ?_
  refine (catch_panickingU r ⟨w.heap.size + 1, 0, none⟩ ⟨w.heap.size, 0, none⟩ v2 a0 bs.length cap0 0 k w' ?_ ?_ (unhide HH).1.c0 (unhide HH).1.c1 (unhide HH).1.f0 (unhide HH).1.f1).mono ?_
  · rw [(unhide HH).2.cell (a := ⟨w.heap.size + 1, 0, none⟩) (by simp) (by simp; omega)]; simp
  · rw [(unhide HH).2.cell (a := ⟨w.heap.size, 0, none⟩) (by simp; omega) (by simp; omega)]; simp
  rintro e u' w'' ⟨rfl, rfl, rfl⟩
  have hback := (unhide HH).1.back (unhide H) ((RFr.alloc2 _ _ _ _).trans (unhide HH).2) k
  exact ⟨_, results_tmp rfl _ _ _, rfl, hback.1, hback.2⟩

set_option maxHeartbeats 800000 in
set_option maxRecDepth 100000 in
theorem readU_err (r : Nat) {rb : Nat} (v : Value) (bs : List Int) (e0 : Int) (fv : Value) (w : World) (h : Rdr w r rb v bs e0) (he : e0 ≠ 0) :
    Calls Try.prog 113 #[.pointer (some ⟨r, 0, none⟩), fv] w fun e w' => e = .returned (.int .u64 0) ∧ Rdr w' r rb v bs e0 ∧ RFr r w w' := by
  have c1 := h.c1
  have hr := h.lt
  have H := hide h
  have he' : (e0 != 0) = true := by rw [bne_iff_ne]; exact he
  clear h he
  go_enter_defers Try.func113, Try.ntmps113
  go_wp2
  exact ⟨_, results_tmp rfl _ _ _, rfl, (unhide H).alloc _, (Fr.refl _ _).alloc _⟩
end Go.Proofs.Ytaldacjeeccbhaa
