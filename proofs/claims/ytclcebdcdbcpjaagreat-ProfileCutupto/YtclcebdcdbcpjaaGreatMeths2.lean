/-
  The calls of a reader: Int, Count.
-/
import Derived.Test.YtclcebdcdbcpjaaGreatRead8
import Derived.Test.YtclcebdcdbcpjaaGreatParts
namespace Go.Proofs.YtclcebdcdbcpjaaGreat
open Go.RowKit

theorem catch_idleU (p q : Addr) (w : World) :
    CallsD Tryz.prog 125 #[.pointer (some p), .pointer (some q)] .returning w fun e u' w' => e = .returned (.tuple #[]) ∧ u' = .returning ∧ w' = w := by
  refine callsD_of_wpS Tryz.func125 rfl fun c₀ cs hu => ?_
  apply wpS_seq
  apply wpS_region
  simp [wpOpsS, go_sem, recoverD, hu, Tryz.ntmps125, Exit.thenS, ta_nil]
  apply wpS_seq
  apply wpS_region
  simp [wpOpsS, go_sem, Exit.thenS]
  refine wpS_cond (t := false) (by simp [Act.eval, Array.replicate]) ?_
  simp only [Bool.false_eq_true, if_false]
  refine wpS_of_wp (wp_skip ?_)
  cases c₀
  simp_all [bodyPostS, results, Tryz.results125]

set_option maxHeartbeats 400000 in
set_option maxRecDepth 100000 in
theorem catch_panickingU (r : Nat) (p q : Addr) (u0 : Value) (a0 : Option Addr) (l0 c0 : Nat) (x0 k : Int) (w : World) (hp : w.cell? p = some (.slice a0 l0 c0)) (hq : w.cell? q = some (.pointer (some ⟨r, 0, none⟩)))
    (h0 : w.cell? ⟨r, 0, none⟩ = some u0) (h1 : w.cell? ⟨r, 1, none⟩ = some (.int .i64 x0)) (f0 : w.frozen? ⟨r, 0, none⟩ = false) (f1 : w.frozen? ⟨r, 1, none⟩ = false) :
    CallsD Tryz.prog 125 #[.pointer (some p), .pointer (some q)] (.panicking [{ v := .iface 26 (.int .i64 k), recovered := false }]) w fun e u' w' =>
      e = .returned (.tuple #[]) ∧ u' = .panicking [{ v := .iface 26 (.int .i64 k), recovered := true }] ∧ w' = (w.setCell ⟨r, 0, none⟩ (.slice a0 l0 c0)).setCell ⟨r, 1, none⟩ (.int .i64 k) := by
  refine callsD_of_wpS Tryz.func125 rfl fun c₀ cs hu => ?_
  apply wpS_seq
  apply wpS_region
  simp [wpOpsS, go_sem, recoverD, hu, Tryz.ntmps125, Exit.thenS, ta_err]
  apply wpS_seq
  apply wpS_region
  simp [wpOpsS, go_sem, Exit.thenS]
  refine wpS_cond (t := true) (by simp [Act.eval, Array.replicate]) ?_
  simp only [if_true]
  simp [Array.replicate]
  refine wpS_of_wp ?_
  go_wp2
  exact ⟨rfl, _, rfl, _, by simp [results, Tryz.results125], rfl, rfl, rfl⟩

set_option maxHeartbeats 800000 in
set_option maxRecDepth 100000 in
theorem readU_ok (r : Nat) {rb : Nat} (v : Value) (bs bs' : List Int) (F : Nat) (first cap : Array Value) (val : Value) (w : World) (h : Rdr w r rb v bs 0) (hF : ∀ args w, (callFunc F args).run Tryz.prog w = .ok (.enter F args) w)
    (hp : ∀ w1, RFr r w w1 → Rdr w1 r rb v bs 0 → Calls Tryz.prog F (first ++ cap) w1 fun e w' => e = .returned val ∧ ∃ v2, Rdr w' r rb v2 bs' 0 ∧ RFr r w1 w') :
    Calls Tryz.prog 121 #[.pointer (some ⟨r, 0, none⟩), .func (Fn.func F) first cap] w fun e w' => e = .returned val ∧ ∃ v2, Rdr w' r rb v2 bs' 0 ∧ RFr r w w' := by
  have hmf : ∀ (fn : Fn) (first cap : Array Value) (w : World), (Instr.makeFunc fn first cap).run Tryz.prog w = .ok (.func fn first cap) w := fun _ _ _ _ => rfl
  have c0 := h.c0
  have c1 := h.c1
  have hr := h.lt
  have HP := hide hp
  have H := hide h
  obtain ⟨a0, cap0, rfl⟩ := h.shape
  clear h hp
  go_enter_defers Tryz.func121, Tryz.ntmps121
  go_wp2_with fail
  refine (unhide HP _ (RFr.alloc2 _ _ _ _) (((unhide H).alloc _).alloc _)).mono ?_
  rintro e w' ⟨rfl, v2, hW, hR⟩
  have HH := hide (And.intro hW hR)
  clear hW hR
  go_wp2
  refine leaves_cons (f := 125) (args := #[.pointer (some ⟨w.heap.size + 1, 0, none⟩), .pointer (some ⟨w.heap.size, 0, none⟩)]) (by simp) (by simp [go_sem]) ?_
  refine (catch_idleU _ _ _).mono ?_
  rintro e u' w'' ⟨rfl, rfl, rfl⟩
  exact ⟨_, results_tmp rfl _ _ _, rfl, v2, (unhide HH).1, (RFr.alloc2 _ _ _ _).trans (unhide HH).2⟩

set_option maxHeartbeats 800000 in
set_option maxRecDepth 100000 in
theorem readU_fail (r : Nat) {rb : Nat} (v : Value) (bs : List Int) (F : Nat) (first cap : Array Value) (k : Int) (w : World) (h : Rdr w r rb v bs 0) (hF : ∀ args w, (callFunc F args).run Tryz.prog w = .ok (.enter F args) w)
    (hp : ∀ w1, RFr r w w1 → Rdr w1 r rb v bs 0 → Calls Tryz.prog F (first ++ cap) w1 fun e w' => e = errPanic k ∧ ∃ v2 bs2, Rdr w' r rb v2 bs2 0 ∧ RFr r w1 w') :
    Calls Tryz.prog 121 #[.pointer (some ⟨r, 0, none⟩), .func (Fn.func F) first cap] w fun e w' => e = .returned (.int .u64 0) ∧ Rdr w' r rb v bs k ∧ RFr r w w' := by
  have hmf : ∀ (fn : Fn) (first cap : Array Value) (w : World), (Instr.makeFunc fn first cap).run Tryz.prog w = .ok (.func fn first cap) w := fun _ _ _ _ => rfl
  have c0 := h.c0
  have c1 := h.c1
  have hr := h.lt
  have HP := hide hp
  have H := hide h
  obtain ⟨a0, cap0, rfl⟩ := h.shape
  clear h hp
  go_enter_defers Tryz.func121, Tryz.ntmps121
  go_wp2_with fail
  refine (unhide HP _ (RFr.alloc2 _ _ _ _) (((unhide H).alloc _).alloc _)).mono ?_
  rintro e w' ⟨rfl, v2, bs2, hW, hR⟩
  have HH := hide (And.intro hW hR)
  clear hW hR
  refine leaves_cons (f := 125) (args := #[.pointer (some ⟨w.heap.size + 1, 0, none⟩), .pointer (some ⟨w.heap.size, 0, none⟩)]) (by simp) (by simp [go_sem]) ?_
  refine (catch_panickingU r ⟨w.heap.size + 1, 0, none⟩ ⟨w.heap.size, 0, none⟩ v2 a0 bs.length cap0 0 k w' ?_ ?_ (unhide HH).1.c0 (unhide HH).1.c1 (unhide HH).1.f0 (unhide HH).1.f1).mono ?_
  · rw [(unhide HH).2.cell (a := ⟨w.heap.size + 1, 0, none⟩) (by simp) (by simp; omega)]; simp
  · rw [(unhide HH).2.cell (a := ⟨w.heap.size, 0, none⟩) (by simp; omega) (by simp; omega)]; simp
  rintro e u' w'' ⟨rfl, rfl, rfl⟩
  have hback := (unhide HH).1.back (unhide H) ((RFr.alloc2 _ _ _ _).trans (unhide HH).2) k
  exact ⟨_, results_tmp rfl _ _ _, rfl, hback.1, hback.2⟩

set_option maxHeartbeats 800000 in
set_option maxRecDepth 100000 in
theorem readU_err (r : Nat) {rb : Nat} (v : Value) (bs : List Int) (e0 : Int) (fv : Value) (w : World) (h : Rdr w r rb v bs e0) (he : e0 ≠ 0) :
    Calls Tryz.prog 121 #[.pointer (some ⟨r, 0, none⟩), fv] w fun e w' => e = .returned (.int .u64 0) ∧ Rdr w' r rb v bs e0 ∧ RFr r w w' := by
  have c1 := h.c1
  have hr := h.lt
  have H := hide h
  have he' : (e0 != 0) = true := by rw [bne_iff_ne]; exact he
  clear h he
  go_enter_defers Tryz.func121, Tryz.ntmps121
  go_wp2
  exact ⟨_, results_tmp rfl _ _ _, rfl, (unhide H).alloc _, (Fr.refl _ _).alloc _⟩


theorem catch_idleI (p q : Addr) (w : World) :
    CallsD Tryz.prog 124 #[.pointer (some p), .pointer (some q)] .returning w fun e u' w' => e = .returned (.tuple #[]) ∧ u' = .returning ∧ w' = w := by
  refine callsD_of_wpS Tryz.func124 rfl fun c₀ cs hu => ?_
  apply wpS_seq
  apply wpS_region
  simp [wpOpsS, go_sem, recoverD, hu, Tryz.ntmps124, Exit.thenS, ta_nil]
  apply wpS_seq
  apply wpS_region
  simp [wpOpsS, go_sem, Exit.thenS]
  refine wpS_cond (t := false) (by simp [Act.eval, Array.replicate]) ?_
  simp only [Bool.false_eq_true, if_false]
  refine wpS_of_wp (wp_skip ?_)
  cases c₀
  simp_all [bodyPostS, results, Tryz.results124]

set_option maxHeartbeats 400000 in
set_option maxRecDepth 100000 in
theorem catch_panickingI (r : Nat) (p q : Addr) (u0 : Value) (a0 : Option Addr) (l0 c0 : Nat) (x0 k : Int) (w : World) (hp : w.cell? p = some (.slice a0 l0 c0)) (hq : w.cell? q = some (.pointer (some ⟨r, 0, none⟩)))
    (h0 : w.cell? ⟨r, 0, none⟩ = some u0) (h1 : w.cell? ⟨r, 1, none⟩ = some (.int .i64 x0)) (f0 : w.frozen? ⟨r, 0, none⟩ = false) (f1 : w.frozen? ⟨r, 1, none⟩ = false) :
    CallsD Tryz.prog 124 #[.pointer (some p), .pointer (some q)] (.panicking [{ v := .iface 26 (.int .i64 k), recovered := false }]) w fun e u' w' =>
      e = .returned (.tuple #[]) ∧ u' = .panicking [{ v := .iface 26 (.int .i64 k), recovered := true }] ∧ w' = (w.setCell ⟨r, 0, none⟩ (.slice a0 l0 c0)).setCell ⟨r, 1, none⟩ (.int .i64 k) := by
  refine callsD_of_wpS Tryz.func124 rfl fun c₀ cs hu => ?_
  apply wpS_seq
  apply wpS_region
  simp [wpOpsS, go_sem, recoverD, hu, Tryz.ntmps124, Exit.thenS, ta_err]
  apply wpS_seq
  apply wpS_region
  simp [wpOpsS, go_sem, Exit.thenS]
  refine wpS_cond (t := true) (by simp [Act.eval, Array.replicate]) ?_
  simp only [if_true]
  simp [Array.replicate]
  refine wpS_of_wp ?_
  go_wp2
  exact ⟨rfl, _, rfl, _, by simp [results, Tryz.results124], rfl, rfl, rfl⟩

set_option maxHeartbeats 800000 in
set_option maxRecDepth 100000 in
theorem readI_ok (r : Nat) {rb : Nat} (v : Value) (bs bs' : List Int) (F : Nat) (first cap : Array Value) (val : Value) (w : World) (h : Rdr w r rb v bs 0) (hF : ∀ args w, (callFunc F args).run Tryz.prog w = .ok (.enter F args) w)
    (hp : ∀ w1, RFr r w w1 → Rdr w1 r rb v bs 0 → Calls Tryz.prog F (first ++ cap) w1 fun e w' => e = .returned val ∧ ∃ v2, Rdr w' r rb v2 bs' 0 ∧ RFr r w1 w') :
    Calls Tryz.prog 118 #[.pointer (some ⟨r, 0, none⟩), .func (Fn.func F) first cap] w fun e w' => e = .returned val ∧ ∃ v2, Rdr w' r rb v2 bs' 0 ∧ RFr r w w' := by
  have hmf : ∀ (fn : Fn) (first cap : Array Value) (w : World), (Instr.makeFunc fn first cap).run Tryz.prog w = .ok (.func fn first cap) w := fun _ _ _ _ => rfl
  have c0 := h.c0
  have c1 := h.c1
  have hr := h.lt
  have HP := hide hp
  have H := hide h
  obtain ⟨a0, cap0, rfl⟩ := h.shape
  clear h hp
  go_enter_defers Tryz.func118, Tryz.ntmps118
  go_wp2_with fail
  refine (unhide HP _ (RFr.alloc2 _ _ _ _) (((unhide H).alloc _).alloc _)).mono ?_
  rintro e w' ⟨rfl, v2, hW, hR⟩
  have HH := hide (And.intro hW hR)
  clear hW hR
  go_wp2
  refine leaves_cons (f := 124) (args := #[.pointer (some ⟨w.heap.size + 1, 0, none⟩), .pointer (some ⟨w.heap.size, 0, none⟩)]) (by simp) (by simp [go_sem]) ?_
  refine (catch_idleI _ _ _).mono ?_
  rintro e u' w'' ⟨rfl, rfl, rfl⟩
  exact ⟨_, results_tmp rfl _ _ _, rfl, v2, (unhide HH).1, (RFr.alloc2 _ _ _ _).trans (unhide HH).2⟩

set_option maxHeartbeats 800000 in
set_option maxRecDepth 100000 in
theorem readI_fail (r : Nat) {rb : Nat} (v : Value) (bs : List Int) (F : Nat) (first cap : Array Value) (k : Int) (w : World) (h : Rdr w r rb v bs 0) (hF : ∀ args w, (callFunc F args).run Tryz.prog w = .ok (.enter F args) w)
    (hp : ∀ w1, RFr r w w1 → Rdr w1 r rb v bs 0 → Calls Tryz.prog F (first ++ cap) w1 fun e w' => e = errPanic k ∧ ∃ v2 bs2, Rdr w' r rb v2 bs2 0 ∧ RFr r w1 w') :
    Calls Tryz.prog 118 #[.pointer (some ⟨r, 0, none⟩), .func (Fn.func F) first cap] w fun e w' => e = .returned (.int .i64 0) ∧ Rdr w' r rb v bs k ∧ RFr r w w' := by
  have hmf : ∀ (fn : Fn) (first cap : Array Value) (w : World), (Instr.makeFunc fn first cap).run Tryz.prog w = .ok (.func fn first cap) w := fun _ _ _ _ => rfl
  have c0 := h.c0
  have c1 := h.c1
  have hr := h.lt
  have HP := hide hp
  have H := hide h
  obtain ⟨a0, cap0, rfl⟩ := h.shape
  clear h hp
  go_enter_defers Tryz.func118, Tryz.ntmps118
  go_wp2_with fail
  refine (unhide HP _ (RFr.alloc2 _ _ _ _) (((unhide H).alloc _).alloc _)).mono ?_
  rintro e w' ⟨rfl, v2, bs2, hW, hR⟩
  have HH := hide (And.intro hW hR)
  clear hW hR
  refine leaves_cons (f := 124) (args := #[.pointer (some ⟨w.heap.size + 1, 0, none⟩), .pointer (some ⟨w.heap.size, 0, none⟩)]) (by simp) (by simp [go_sem]) ?_
  refine (catch_panickingI r ⟨w.heap.size + 1, 0, none⟩ ⟨w.heap.size, 0, none⟩ v2 a0 bs.length cap0 0 k w' ?_ ?_ (unhide HH).1.c0 (unhide HH).1.c1 (unhide HH).1.f0 (unhide HH).1.f1).mono ?_
  · rw [(unhide HH).2.cell (a := ⟨w.heap.size + 1, 0, none⟩) (by simp) (by simp; omega)]; simp
  · rw [(unhide HH).2.cell (a := ⟨w.heap.size, 0, none⟩) (by simp; omega) (by simp; omega)]; simp
  rintro e u' w'' ⟨rfl, rfl, rfl⟩
  have hback := (unhide HH).1.back (unhide H) ((RFr.alloc2 _ _ _ _).trans (unhide HH).2) k
  exact ⟨_, results_tmp rfl _ _ _, rfl, hback.1, hback.2⟩

set_option maxHeartbeats 800000 in
set_option maxRecDepth 100000 in
theorem readI_err (r : Nat) {rb : Nat} (v : Value) (bs : List Int) (e0 : Int) (fv : Value) (w : World) (h : Rdr w r rb v bs e0) (he : e0 ≠ 0) :
    Calls Tryz.prog 118 #[.pointer (some ⟨r, 0, none⟩), fv] w fun e w' => e = .returned (.int .i64 0) ∧ Rdr w' r rb v bs e0 ∧ RFr r w w' := by
  have c1 := h.c1
  have hr := h.lt
  have H := hide h
  have he' : (e0 != 0) = true := by rw [bne_iff_ne]; exact he
  clear h he
  go_enter_defers Tryz.func118, Tryz.ntmps118
  go_wp2
  exact ⟨_, results_tmp rfl _ _ _, rfl, (unhide H).alloc _, (Fr.refl _ _).alloc _⟩


theorem catch_idleN (p q : Addr) (w : World) :
    CallsD Tryz.prog 83 #[.pointer (some p), .pointer (some q)] .returning w fun e u' w' => e = .returned (.tuple #[]) ∧ u' = .returning ∧ w' = w := by
  refine callsD_of_wpS Tryz.func83 rfl fun c₀ cs hu => ?_
  apply wpS_seq
  apply wpS_region
  simp [wpOpsS, go_sem, recoverD, hu, Tryz.ntmps83, Exit.thenS, ta_nil]
  apply wpS_seq
  apply wpS_region
  simp [wpOpsS, go_sem, Exit.thenS]
  refine wpS_cond (t := false) (by simp [Act.eval, Array.replicate]) ?_
  simp only [Bool.false_eq_true, if_false]
  refine wpS_of_wp (wp_skip ?_)
  cases c₀
  simp_all [bodyPostS, results, Tryz.results83]

set_option maxHeartbeats 400000 in
set_option maxRecDepth 100000 in
theorem catch_panickingN (r : Nat) (p q : Addr) (u0 : Value) (a0 : Option Addr) (l0 c0 : Nat) (x0 k : Int) (w : World) (hp : w.cell? p = some (.slice a0 l0 c0)) (hq : w.cell? q = some (.pointer (some ⟨r, 0, none⟩)))
    (h0 : w.cell? ⟨r, 0, none⟩ = some u0) (h1 : w.cell? ⟨r, 1, none⟩ = some (.int .i64 x0)) (f0 : w.frozen? ⟨r, 0, none⟩ = false) (f1 : w.frozen? ⟨r, 1, none⟩ = false) :
    CallsD Tryz.prog 83 #[.pointer (some p), .pointer (some q)] (.panicking [{ v := .iface 26 (.int .i64 k), recovered := false }]) w fun e u' w' =>
      e = .returned (.tuple #[]) ∧ u' = .panicking [{ v := .iface 26 (.int .i64 k), recovered := true }] ∧ w' = (w.setCell ⟨r, 0, none⟩ (.slice a0 l0 c0)).setCell ⟨r, 1, none⟩ (.int .i64 k) := by
  refine callsD_of_wpS Tryz.func83 rfl fun c₀ cs hu => ?_
  apply wpS_seq
  apply wpS_region
  simp [wpOpsS, go_sem, recoverD, hu, Tryz.ntmps83, Exit.thenS, ta_err]
  apply wpS_seq
  apply wpS_region
  simp [wpOpsS, go_sem, Exit.thenS]
  refine wpS_cond (t := true) (by simp [Act.eval, Array.replicate]) ?_
  simp only [if_true]
  simp [Array.replicate]
  refine wpS_of_wp ?_
  go_wp2
  exact ⟨rfl, _, rfl, _, by simp [results, Tryz.results83], rfl, rfl, rfl⟩

set_option maxHeartbeats 800000 in
set_option maxRecDepth 100000 in
theorem readN_ok (r : Nat) {rb : Nat} (v : Value) (bs bs' : List Int) (F : Nat) (first cap : Array Value) (val : Value) (w : World) (h : Rdr w r rb v bs 0) (hF : ∀ args w, (callFunc F args).run Tryz.prog w = .ok (.enter F args) w)
    (hp : ∀ w1, RFr r w w1 → Rdr w1 r rb v bs 0 → Calls Tryz.prog F (first ++ cap) w1 fun e w' => e = .returned val ∧ ∃ v2, Rdr w' r rb v2 bs' 0 ∧ RFr r w1 w') :
    Calls Tryz.prog 65 #[.pointer (some ⟨r, 0, none⟩), .func (Fn.func F) first cap] w fun e w' => e = .returned val ∧ ∃ v2, Rdr w' r rb v2 bs' 0 ∧ RFr r w w' := by
  have hmf : ∀ (fn : Fn) (first cap : Array Value) (w : World), (Instr.makeFunc fn first cap).run Tryz.prog w = .ok (.func fn first cap) w := fun _ _ _ _ => rfl
  have c0 := h.c0
  have c1 := h.c1
  have hr := h.lt
  have HP := hide hp
  have H := hide h
  obtain ⟨a0, cap0, rfl⟩ := h.shape
  clear h hp
  go_enter_defers Tryz.func65, Tryz.ntmps65
  go_wp2_with fail
  refine (unhide HP _ (RFr.alloc2 _ _ _ _) (((unhide H).alloc _).alloc _)).mono ?_
  rintro e w' ⟨rfl, v2, hW, hR⟩
  have HH := hide (And.intro hW hR)
  clear hW hR
  go_wp2
  refine leaves_cons (f := 83) (args := #[.pointer (some ⟨w.heap.size + 1, 0, none⟩), .pointer (some ⟨w.heap.size, 0, none⟩)]) (by simp) (by simp [go_sem]) ?_
  refine (catch_idleN _ _ _).mono ?_
  rintro e u' w'' ⟨rfl, rfl, rfl⟩
  exact ⟨_, results_tmp rfl _ _ _, rfl, v2, (unhide HH).1, (RFr.alloc2 _ _ _ _).trans (unhide HH).2⟩

set_option maxHeartbeats 800000 in
set_option maxRecDepth 100000 in
theorem readN_fail (r : Nat) {rb : Nat} (v : Value) (bs : List Int) (F : Nat) (first cap : Array Value) (k : Int) (w : World) (h : Rdr w r rb v bs 0) (hF : ∀ args w, (callFunc F args).run Tryz.prog w = .ok (.enter F args) w)
    (hp : ∀ w1, RFr r w w1 → Rdr w1 r rb v bs 0 → Calls Tryz.prog F (first ++ cap) w1 fun e w' => e = errPanic k ∧ ∃ v2 bs2, Rdr w' r rb v2 bs2 0 ∧ RFr r w1 w') :
    Calls Tryz.prog 65 #[.pointer (some ⟨r, 0, none⟩), .func (Fn.func F) first cap] w fun e w' => e = .returned (.int .i64 0) ∧ Rdr w' r rb v bs k ∧ RFr r w w' := by
  have hmf : ∀ (fn : Fn) (first cap : Array Value) (w : World), (Instr.makeFunc fn first cap).run Tryz.prog w = .ok (.func fn first cap) w := fun _ _ _ _ => rfl
  have c0 := h.c0
  have c1 := h.c1
  have hr := h.lt
  have HP := hide hp
  have H := hide h
  obtain ⟨a0, cap0, rfl⟩ := h.shape
  clear h hp
  go_enter_defers Tryz.func65, Tryz.ntmps65
  go_wp2_with fail
  refine (unhide HP _ (RFr.alloc2 _ _ _ _) (((unhide H).alloc _).alloc _)).mono ?_
  rintro e w' ⟨rfl, v2, bs2, hW, hR⟩
  have HH := hide (And.intro hW hR)
  clear hW hR
  refine leaves_cons (f := 83) (args := #[.pointer (some ⟨w.heap.size + 1, 0, none⟩), .pointer (some ⟨w.heap.size, 0, none⟩)]) (by simp) (by simp [go_sem]) ?_
  refine (catch_panickingN r ⟨w.heap.size + 1, 0, none⟩ ⟨w.heap.size, 0, none⟩ v2 a0 bs.length cap0 0 k w' ?_ ?_ (unhide HH).1.c0 (unhide HH).1.c1 (unhide HH).1.f0 (unhide HH).1.f1).mono ?_
  · rw [(unhide HH).2.cell (a := ⟨w.heap.size + 1, 0, none⟩) (by simp) (by simp; omega)]; simp
  · rw [(unhide HH).2.cell (a := ⟨w.heap.size, 0, none⟩) (by simp; omega) (by simp; omega)]; simp
  rintro e u' w'' ⟨rfl, rfl, rfl⟩
  have hback := (unhide HH).1.back (unhide H) ((RFr.alloc2 _ _ _ _).trans (unhide HH).2) k
  exact ⟨_, results_tmp rfl _ _ _, rfl, hback.1, hback.2⟩

set_option maxHeartbeats 800000 in
set_option maxRecDepth 100000 in
theorem readN_err (r : Nat) {rb : Nat} (v : Value) (bs : List Int) (e0 : Int) (fv : Value) (w : World) (h : Rdr w r rb v bs e0) (he : e0 ≠ 0) :
    Calls Tryz.prog 65 #[.pointer (some ⟨r, 0, none⟩), fv] w fun e w' => e = .returned (.int .i64 0) ∧ Rdr w' r rb v bs e0 ∧ RFr r w w' := by
  have c1 := h.c1
  have hr := h.lt
  have H := hide h
  have he' : (e0 != 0) = true := by rw [bne_iff_ne]; exact he
  clear h he
  go_enter_defers Tryz.func65, Tryz.ntmps65
  go_wp2
  exact ⟨_, results_tmp rfl _ _ _, rfl, (unhide H).alloc _, (Fr.refl _ _).alloc _⟩


/-- What a call of a reader answers and leaves: behind an error the zero value, and nothing is read; else what o says. -/
def rres (zero : Value) (o : Except Int (Value × List Int)) (bs : List Int) (e0 : Int) : Value × List Int × Int :=
  if e0 = 0 then (match o with | .ok (u, t) => (u, t, 0) | .error k => (zero, bs, k)) else (zero, bs, e0)
def RPost (r rb : Nat) (w : World) (p : Value × List Int × Int) (e : Ending) (w' : World) : Prop := e = .returned p.1 ∧ ∃ v2, Rdr w' r rb v2 p.2.1 p.2.2 ∧ RFr r w w'

/-- The next byte. -/
def gByte : List Int → Except Int (Value × List Int)
  | [] => .error 2
  | b :: t => .ok (.int .u8 b, t)
def gNum (f : Nat → Value) (o : Except Int (Nat × List Int)) : Except Int (Value × List Int) :=
  match o with
  | .ok (x, t) => .ok (f x, t)
  | .error k => .error k
def gWord (bs : List Int) : Except Int (Value × List Int) := if bs.length < 8 then .error 2 else .ok (.int .u64 (wnum 0 (bs.take 8)), bs.drop 8)

/-- What a part comes to. -/
def PPost (r rb : Nat) (w : World) (o : Except Int (Value × List Int)) (e : Ending) (w' : World) : Prop :=
  match o with
  | .ok (u, t) => e = .returned u ∧ ∃ v2, Rdr w' r rb v2 t 0 ∧ RFr r w w'
  | .error k => e = errPanic k ∧ ∃ v2 bs2, Rdr w' r rb v2 bs2 0 ∧ RFr r w w'

theorem PPost.of_came {r rb : Nat} {w w' : World} {f : Nat → Value} {o : Except Int (Nat × List Int)} {e : Ending} (h : Came r rb w 0 f o e w') : PPost r rb w (gNum f o) e w' := by
  rcases o with k | ⟨x, t⟩
  · exact h
  · exact h

theorem enters47 (args : Array Value) (w : World) : (callFunc 84 args).run Tryz.prog w = .ok (.enter 84 args) w := by kernel_rfl
theorem enters50 (args : Array Value) (w : World) : (callFunc 119 args).run Tryz.prog w = .ok (.enter 119 args) w := by kernel_rfl
theorem enters75 (args : Array Value) (w : World) : (callFunc 66 args).run Tryz.prog w = .ok (.enter 66 args) w := by kernel_rfl

theorem read8_meth (r : Nat) {rb : Nat} (v : Value) (bs : List Int) (e0 : Int) (F : Nat) (first cap : Array Value) (o : Except Int (Value × List Int)) (w : World) (h : Rdr w r rb v bs e0) (hF : ∀ args w, (callFunc F args).run Tryz.prog w = .ok (.enter F args) w)
    (hp : ∀ w1, RFr r w w1 → Rdr w1 r rb v bs 0 → Calls Tryz.prog F (first ++ cap) w1 fun e w' => PPost r rb w1 o e w') :
    Calls Tryz.prog 106 #[.pointer (some ⟨r, 0, none⟩), .func (Fn.func F) first cap] w fun e w' => RPost r rb w (rres (.int .u8 0) o bs e0) e w' := by
  by_cases he : e0 = 0
  · subst he
    unfold rres
    rw [if_pos rfl]
    rcases o with k | ⟨u, t⟩
    · exact (read8_fail r v bs F first cap k w h hF hp).mono fun e w' ⟨h1, h2, h3⟩ => ⟨h1, v, h2, h3⟩
    · exact (read8_ok r v bs t F first cap u w h hF hp).mono fun e w' ⟨h1, v2, h2, h3⟩ => ⟨h1, v2, h2, h3⟩
  · unfold rres
    rw [if_neg he]
    exact (read8_err r v bs e0 _ w h he).mono fun e w' ⟨h1, h2, h3⟩ => ⟨h1, v, h2, h3⟩

theorem readU_meth (r : Nat) {rb : Nat} (v : Value) (bs : List Int) (e0 : Int) (F : Nat) (first cap : Array Value) (o : Except Int (Value × List Int)) (w : World) (h : Rdr w r rb v bs e0) (hF : ∀ args w, (callFunc F args).run Tryz.prog w = .ok (.enter F args) w)
    (hp : ∀ w1, RFr r w w1 → Rdr w1 r rb v bs 0 → Calls Tryz.prog F (first ++ cap) w1 fun e w' => PPost r rb w1 o e w') :
    Calls Tryz.prog 121 #[.pointer (some ⟨r, 0, none⟩), .func (Fn.func F) first cap] w fun e w' => RPost r rb w (rres (.int .u64 0) o bs e0) e w' := by
  by_cases he : e0 = 0
  · subst he
    unfold rres
    rw [if_pos rfl]
    rcases o with k | ⟨u, t⟩
    · exact (readU_fail r v bs F first cap k w h hF hp).mono fun e w' ⟨h1, h2, h3⟩ => ⟨h1, v, h2, h3⟩
    · exact (readU_ok r v bs t F first cap u w h hF hp).mono fun e w' ⟨h1, v2, h2, h3⟩ => ⟨h1, v2, h2, h3⟩
  · unfold rres
    rw [if_neg he]
    exact (readU_err r v bs e0 _ w h he).mono fun e w' ⟨h1, h2, h3⟩ => ⟨h1, v, h2, h3⟩

theorem readI_meth (r : Nat) {rb : Nat} (v : Value) (bs : List Int) (e0 : Int) (F : Nat) (first cap : Array Value) (o : Except Int (Value × List Int)) (w : World) (h : Rdr w r rb v bs e0) (hF : ∀ args w, (callFunc F args).run Tryz.prog w = .ok (.enter F args) w)
    (hp : ∀ w1, RFr r w w1 → Rdr w1 r rb v bs 0 → Calls Tryz.prog F (first ++ cap) w1 fun e w' => PPost r rb w1 o e w') :
    Calls Tryz.prog 118 #[.pointer (some ⟨r, 0, none⟩), .func (Fn.func F) first cap] w fun e w' => RPost r rb w (rres (.int .i64 0) o bs e0) e w' := by
  by_cases he : e0 = 0
  · subst he
    unfold rres
    rw [if_pos rfl]
    rcases o with k | ⟨u, t⟩
    · exact (readI_fail r v bs F first cap k w h hF hp).mono fun e w' ⟨h1, h2, h3⟩ => ⟨h1, v, h2, h3⟩
    · exact (readI_ok r v bs t F first cap u w h hF hp).mono fun e w' ⟨h1, v2, h2, h3⟩ => ⟨h1, v2, h2, h3⟩
  · unfold rres
    rw [if_neg he]
    exact (readI_err r v bs e0 _ w h he).mono fun e w' ⟨h1, h2, h3⟩ => ⟨h1, v, h2, h3⟩

theorem readN_meth (r : Nat) {rb : Nat} (v : Value) (bs : List Int) (e0 : Int) (F : Nat) (first cap : Array Value) (o : Except Int (Value × List Int)) (w : World) (h : Rdr w r rb v bs e0) (hF : ∀ args w, (callFunc F args).run Tryz.prog w = .ok (.enter F args) w)
    (hp : ∀ w1, RFr r w w1 → Rdr w1 r rb v bs 0 → Calls Tryz.prog F (first ++ cap) w1 fun e w' => PPost r rb w1 o e w') :
    Calls Tryz.prog 65 #[.pointer (some ⟨r, 0, none⟩), .func (Fn.func F) first cap] w fun e w' => RPost r rb w (rres (.int .i64 0) o bs e0) e w' := by
  by_cases he : e0 = 0
  · subst he
    unfold rres
    rw [if_pos rfl]
    rcases o with k | ⟨u, t⟩
    · exact (readN_fail r v bs F first cap k w h hF hp).mono fun e w' ⟨h1, h2, h3⟩ => ⟨h1, v, h2, h3⟩
    · exact (readN_ok r v bs t F first cap u w h hF hp).mono fun e w' ⟨h1, v2, h2, h3⟩ => ⟨h1, v2, h2, h3⟩
  · unfold rres
    rw [if_neg he]
    exact (readN_err r v bs e0 _ w h he).mono fun e w' ⟨h1, h2, h3⟩ => ⟨h1, v, h2, h3⟩

theorem one_part (r : Nat) {rb : Nat} (v : Value) (bs : List Int) (w : World) (h : Rdr w r rb v bs 0) :
    Calls Tryz.prog 105 #[.pointer (some ⟨r, 0, none⟩)] w fun e w' => PPost r rb w (gByte bs) e w' := by
  cases bs with
  | nil => exact (one_short r v 0 w h).mono fun e w' ⟨h1, h2⟩ => ⟨h1, v, [], h2 ▸ h, h2 ▸ RFr.refl _ _⟩
  | cons b t => exact one_ok r v b t 0 w h
theorem number_part (r : Nat) {rb : Nat} (v : Value) (bs : List Int) (w : World) (h : Rdr w r rb v bs 0) (hB : BOk bs) :
    Calls Tryz.prog 84 #[.pointer (some ⟨r, 0, none⟩)] w fun e w' => PPost r rb w (gNum (fun x => .int .u64 x) (unum 0 0 bs)) e w' :=
  (number_any r v bs 0 w h hB).mono fun _ _ h => PPost.of_came h

set_option maxHeartbeats 400000 in
set_option maxRecDepth 100000 in
theorem rByte_any (r : Nat) {rb : Nat} (v : Value) (bs : List Int) (e0 : Int) (w : World) (h : Rdr w r rb v bs e0) :
    Calls Tryz.prog 85 #[.pointer (some ⟨r, 0, none⟩)] w fun e w' => RPost r rb w (rres (.int .u8 0) (gByte bs) bs e0) e w' := by
  have hmf : ∀ (fn : Fn) (first cap : Array Value) (w : World), (Instr.makeFunc fn first cap).run Tryz.prog w = .ok (.func fn first cap) w := fun _ _ _ _ => rfl
  have hR := hide (read8_meth r v bs e0 105 #[.pointer (some ⟨r, 0, none⟩)] #[] (gByte bs) w h enters45 (fun w1 _ h1 => one_part r v bs w1 h1))
  clear h
  go_enter Tryz.func85, Tryz.ntmps85
  go_wp2_with fail
  refine (unhide hR).mono ?_
  rintro e w' ⟨rfl, hh⟩
  have HH := hide hh
  clear hh
  go_wp2
  go_ret
  exact ⟨rfl, unhide HH⟩

set_option maxHeartbeats 400000 in
set_option maxRecDepth 100000 in
theorem rUint_any (r : Nat) {rb : Nat} (v : Value) (bs : List Int) (e0 : Int) (w : World) (h : Rdr w r rb v bs e0) (hB : BOk bs) :
    Calls Tryz.prog 108 #[.pointer (some ⟨r, 0, none⟩)] w fun e w' => RPost r rb w (rres (.int .u64 0) (gNum (fun x => .int .u64 x) (unum 0 0 bs)) bs e0) e w' := by
  have hmf : ∀ (fn : Fn) (first cap : Array Value) (w : World), (Instr.makeFunc fn first cap).run Tryz.prog w = .ok (.func fn first cap) w := fun _ _ _ _ => rfl
  have hR := hide (readU_meth r v bs e0 84 #[.pointer (some ⟨r, 0, none⟩)] #[] (gNum (fun x => .int .u64 x) (unum 0 0 bs)) w h enters47 (fun w1 _ h1 => number_part r v bs w1 h1 hB))
  clear h
  go_enter Tryz.func108, Tryz.ntmps108
  go_wp2_with fail
  refine (unhide hR).mono ?_
  rintro e w' ⟨rfl, hh⟩
  have HH := hide hh
  clear hh
  go_wp2
  go_ret
  exact ⟨rfl, unhide HH⟩



set_option maxHeartbeats 400000 in
set_option maxRecDepth 100000 in
theorem int_part (r : Nat) {rb : Nat} (v : Value) (bs : List Int) (q : Addr) (w : World) (h : Rdr w r rb v bs 0) (hB : BOk bs) (hq : w.cell? q = some (.pointer (some ⟨r, 0, none⟩))) :
    Calls Tryz.prog 119 #[.pointer (some q)] w fun e w' => PPost r rb w (gNum (fun x => .int .i64 (unfoldI x)) (unum 0 0 bs)) e w' := by
  have hN := hide (number_any r v bs 0 w h hB)
  rcases hu : unum 0 0 bs with k | ⟨x, t⟩
  · rw [hu] at hN
    clear h
    go_enter Tryz.func119, Tryz.ntmps119
    go_wp2_with fail
    refine (unhide hN).mono ?_
    rintro e w' ⟨rfl, hh⟩
    exact ⟨rfl, rfl, hh⟩
  · rw [hu] at hN
    have hx := (unum_lt 0 0 bs x t (by omega) (by simp) hB hu).1
    clear h hB hu
    go_enter Tryz.func119, Tryz.ntmps119
    go_wp2_with fail
    refine (unhide hN).mono ?_
    rintro e w' ⟨rfl, v2, hW, hF⟩
    have HH := hide (And.intro hW hF)
    have hU := hide (unfold_any x w' hx)
    clear hW hF
    go_wp2_with fail
    refine (unhide hU).mono ?_
    rintro e w2 ⟨rfl, rfl⟩
    go_wp2
    go_ret
    exact ⟨rfl, v2, (unhide HH).1, (unhide HH).2⟩

set_option maxHeartbeats 400000 in
set_option maxRecDepth 100000 in
theorem rInt_any (r : Nat) {rb : Nat} (v : Value) (bs : List Int) (e0 : Int) (w : World) (h : Rdr w r rb v bs e0) (hB : BOk bs) :
    Calls Tryz.prog 107 #[.pointer (some ⟨r, 0, none⟩)] w fun e w' => RPost r rb w (rres (.int .i64 0) (gNum (fun x => .int .i64 (unfoldI x)) (unum 0 0 bs)) bs e0) e w' := by
  have hmf : ∀ (fn : Fn) (first cap : Array Value) (w : World), (Instr.makeFunc fn first cap).run Tryz.prog w = .ok (.func fn first cap) w := fun _ _ _ _ => rfl
  have hr := h.lt
  have hR := hide (readI_meth r v bs e0 119 #[] #[.pointer (some ⟨w.heap.size, 0, none⟩)] (gNum (fun x => .int .i64 (unfoldI x)) (unum 0 0 bs)) (w.alloc (.cells #[.pointer (some ⟨r, 0, none⟩)] 54)) (h.alloc _) enters50
    (fun w1 hF h1 => int_part r v bs ⟨w.heap.size, 0, none⟩ w1 h1 hB (by rw [Fr.cell hF (a := ⟨w.heap.size, 0, none⟩) (by simp) (by simp; omega)]; simp)))
  clear h hB
  go_enter Tryz.func107, Tryz.ntmps107
  go_wp2_with fail
  refine (unhide hR).mono ?_
  rintro e w' ⟨rfl, v2, hW, hF⟩
  have HH := hide (And.intro hW hF)
  clear hW hF
  go_wp2
  go_ret
  exact ⟨rfl, v2, (unhide HH).1, ((Fr.refl _ _).alloc _ : RFr r w _).trans (unhide HH).2⟩

set_option maxHeartbeats 400000 in
set_option maxRecDepth 100000 in
theorem count_part (r : Nat) {rb : Nat} (v : Value) (bs : List Int) (most : Int) (q p : Addr) (w : World) (h : Rdr w r rb v bs 0) (hB : BOk bs) (hm : most ≤ 9223372036854775807) (hq : w.cell? q = some (.pointer (some ⟨r, 0, none⟩))) (hp : w.cell? p = some (.int .i64 most)) :
    Calls Tryz.prog 66 #[.pointer (some q), .pointer (some p)] w fun e w' => PPost r rb w (gNum (fun x => .int .i64 x) (unumMost most bs)) e w' := by
  have hN := hide (atMost_any r v bs 0 most w h hB hm)
  rcases hu : unumMost most bs with k | ⟨x, t⟩
  · rw [hu] at hN
    clear h
    go_enter Tryz.func66, Tryz.ntmps66
    go_wp2_with fail
    refine (unhide hN).mono ?_
    rintro e w' ⟨rfl, hh⟩
    exact ⟨rfl, rfl, hh⟩
  · rw [hu] at hN
    clear h hB hu
    go_enter Tryz.func66, Tryz.ntmps66
    go_wp2_with fail
    refine (unhide hN).mono ?_
    rintro e w' ⟨rfl, v2, hW, hF⟩
    have HH := hide (And.intro hW hF)
    clear hW hF
    go_wp2
    go_ret
    exact ⟨rfl, v2, (unhide HH).1, (unhide HH).2⟩

set_option maxHeartbeats 400000 in
set_option maxRecDepth 100000 in
theorem rCount_any (r : Nat) {rb : Nat} (v : Value) (bs : List Int) (e0 most : Int) (w : World) (h : Rdr w r rb v bs e0) (hB : BOk bs) (hm : most ≤ 9223372036854775807) :
    Calls Tryz.prog 40 #[.pointer (some ⟨r, 0, none⟩), .int .i64 most] w fun e w' => RPost r rb w (rres (.int .i64 0) (gNum (fun x => .int .i64 x) (unumMost most bs)) bs e0) e w' := by
  have hmf : ∀ (fn : Fn) (first cap : Array Value) (w : World), (Instr.makeFunc fn first cap).run Tryz.prog w = .ok (.func fn first cap) w := fun _ _ _ _ => rfl
  have hr := h.lt
  have hR := hide (readN_meth r v bs e0 66 #[] #[.pointer (some ⟨w.heap.size, 0, none⟩), .pointer (some ⟨w.heap.size + 1, 0, none⟩)] (gNum (fun x => .int .i64 x) (unumMost most bs))
    ((w.alloc (.cells #[.pointer (some ⟨r, 0, none⟩)] 54)).alloc (.cells #[.int .i64 most] 3)) ((h.alloc _).alloc _) enters75
    (fun w1 hF h1 => count_part r v bs most ⟨w.heap.size, 0, none⟩ ⟨w.heap.size + 1, 0, none⟩ w1 h1 hB hm
      (by rw [Fr.cell hF (a := ⟨w.heap.size, 0, none⟩) (by simp; omega) (by simp; omega)]; simp) (by rw [Fr.cell hF (a := ⟨w.heap.size + 1, 0, none⟩) (by simp) (by simp; omega)]; simp)))
  clear h hB
  go_enter Tryz.func40, Tryz.ntmps40
  go_wp2_with fail
  refine (unhide hR).mono ?_
  rintro e w' ⟨rfl, v2, hW, hF⟩
  have HH := hide (And.intro hW hF)
  clear hW hF
  go_wp2
  go_ret
  exact ⟨rfl, v2, (unhide HH).1, (RFr.alloc2 r w _ _).trans (unhide HH).2⟩
end Go.Proofs.YtclcebdcdbcpjaaGreat
