/-
  read, at byte.
-/
import Derived.Test.YtclcebdcdbcpjaaGreatTake
namespace Go.Proofs.YtclcebdcdbcpjaaGreat
open Go.RowKit

theorem RFr.alloc2 (r : Nat) (w : World) (o p : Obj) : RFr r w ((w.alloc o).alloc p) := ((Fr.refl _ w).alloc o).alloc p
/-- Behind a part that gave up: what was left ahead of it is put back, and the error kept. -/
theorem Rdr.back {w w' : World} {r rb : Nat} {v v2 : Value} {bs bs2 : List Int} (h : Rdr w' r rb v2 bs2 0) (h0 : Rdr w r rb v bs 0) (f : RFr r w w') (k : Int) :
    Rdr ((w'.setCell ⟨r, 0, none⟩ v).setCell ⟨r, 1, none⟩ (.int .i64 k)) r rb v bs k ∧ RFr r w ((w'.setCell ⟨r, 0, none⟩ v).setCell ⟨r, 1, none⟩ (.int .i64 k)) := by
  have hf : RFr r w ((w'.setCell ⟨r, 0, none⟩ v).setCell ⟨r, 1, none⟩ (.int .i64 k)) :=
    Fr.setCell (S := fun k => k = r) (Fr.setCell (S := fun k => k = r) f ⟨r, 0, none⟩ (.inr rfl) v) ⟨r, 1, none⟩ (.inr rfl) _
  refine ⟨⟨?_, ?_, by simp only [World.frozen?_setCell]; exact h.f0, by simp only [World.frozen?_setCell]; exact h.f1, h0.rd.keep hf (fun b off len cap hv e => h0.ne ((h0.ap b off len cap hv).symm.trans e)), h0.ap, h0.ne⟩, hf⟩
  · rw [World.cell?_setCell_other _ _ _ _ (by simp)]; exact World.cell?_setCell_same _ _ _ h.c0
  · exact World.cell?_setCell_same _ _ _ (by rw [World.cell?_setCell_other _ _ _ _ (by simp)]; exact h.c1)

theorem enters45 (args : Array Value) (w : World) : (callFunc 105 args).run Tryz.prog w = .ok (.enter 105 args) w := by kernel_rfl

set_option maxHeartbeats 800000 in
set_option maxRecDepth 100000 in
theorem read8_ok (r : Nat) {rb : Nat} (v : Value) (bs bs' : List Int) (F : Nat) (first cap : Array Value) (val : Value) (w : World) (h : Rdr w r rb v bs 0) (hF : ∀ args w, (callFunc F args).run Tryz.prog w = .ok (.enter F args) w)
    (hp : ∀ w1, RFr r w w1 → Rdr w1 r rb v bs 0 → Calls Tryz.prog F (first ++ cap) w1 fun e w' => e = .returned val ∧ ∃ v2, Rdr w' r rb v2 bs' 0 ∧ RFr r w1 w') :
    Calls Tryz.prog 106 #[.pointer (some ⟨r, 0, none⟩), .func (Fn.func F) first cap] w fun e w' => e = .returned val ∧ ∃ v2, Rdr w' r rb v2 bs' 0 ∧ RFr r w w' := by
  have hmf : ∀ (fn : Fn) (first cap : Array Value) (w : World), (Instr.makeFunc fn first cap).run Tryz.prog w = .ok (.func fn first cap) w := fun _ _ _ _ => rfl
  have c0 := h.c0
  have c1 := h.c1
  have hr := h.lt
  have HP := hide hp
  have H := hide h
  obtain ⟨a0, cap0, rfl⟩ := h.shape
  clear h hp
  go_enter_defers Tryz.func106, Tryz.ntmps106
  go_wp2_with fail
  refine (unhide HP _ (RFr.alloc2 _ _ _ _) (((unhide H).alloc _).alloc _)).mono ?_
  rintro e w' ⟨rfl, v2, hW, hR⟩
  have HH := hide (And.intro hW hR)
  clear hW hR
  go_wp2
  refine leaves_cons (f := 117) (args := #[.pointer (some ⟨w.heap.size + 1, 0, none⟩), .pointer (some ⟨w.heap.size, 0, none⟩)]) (by simp) (by simp [go_sem]) ?_
  refine (catch_idle _ _ _).mono ?_
  rintro e u' w'' ⟨rfl, rfl, rfl⟩
  exact ⟨_, results_tmp rfl _ _ _, rfl, v2, (unhide HH).1, (RFr.alloc2 _ _ _ _).trans (unhide HH).2⟩

set_option maxHeartbeats 800000 in
set_option maxRecDepth 100000 in
theorem read8_fail (r : Nat) {rb : Nat} (v : Value) (bs : List Int) (F : Nat) (first cap : Array Value) (k : Int) (w : World) (h : Rdr w r rb v bs 0) (hF : ∀ args w, (callFunc F args).run Tryz.prog w = .ok (.enter F args) w)
    (hp : ∀ w1, RFr r w w1 → Rdr w1 r rb v bs 0 → Calls Tryz.prog F (first ++ cap) w1 fun e w' => e = errPanic k ∧ ∃ v2 bs2, Rdr w' r rb v2 bs2 0 ∧ RFr r w1 w') :
    Calls Tryz.prog 106 #[.pointer (some ⟨r, 0, none⟩), .func (Fn.func F) first cap] w fun e w' => e = .returned (.int .u8 0) ∧ Rdr w' r rb v bs k ∧ RFr r w w' := by
  have hmf : ∀ (fn : Fn) (first cap : Array Value) (w : World), (Instr.makeFunc fn first cap).run Tryz.prog w = .ok (.func fn first cap) w := fun _ _ _ _ => rfl
  have c0 := h.c0
  have c1 := h.c1
  have hr := h.lt
  have HP := hide hp
  have H := hide h
  obtain ⟨a0, cap0, rfl⟩ := h.shape
  clear h hp
  go_enter_defers Tryz.func106, Tryz.ntmps106
  go_wp2_with fail
  refine (unhide HP _ (RFr.alloc2 _ _ _ _) (((unhide H).alloc _).alloc _)).mono ?_
  rintro e w' ⟨rfl, v2, bs2, hW, hR⟩
  have HH := hide (And.intro hW hR)
  clear hW hR
  refine leaves_cons (f := 117) (args := #[.pointer (some ⟨w.heap.size + 1, 0, none⟩), .pointer (some ⟨w.heap.size, 0, none⟩)]) (by simp) (by simp [go_sem]) ?_
  refine (catch_panicking r ⟨w.heap.size + 1, 0, none⟩ ⟨w.heap.size, 0, none⟩ v2 a0 bs.length cap0 0 k w' ?_ ?_ (unhide HH).1.c0 (unhide HH).1.c1 (unhide HH).1.f0 (unhide HH).1.f1).mono ?_
  · rw [(unhide HH).2.cell (a := ⟨w.heap.size + 1, 0, none⟩) (by simp) (by simp; omega)]; simp
  · rw [(unhide HH).2.cell (a := ⟨w.heap.size, 0, none⟩) (by simp; omega) (by simp; omega)]; simp
  rintro e u' w'' ⟨rfl, rfl, rfl⟩
  have hback := (unhide HH).1.back (unhide H) ((RFr.alloc2 _ _ _ _).trans (unhide HH).2) k
  exact ⟨_, results_tmp rfl _ _ _, rfl, hback.1, hback.2⟩

set_option maxHeartbeats 800000 in
set_option maxRecDepth 100000 in
theorem read8_err (r : Nat) {rb : Nat} (v : Value) (bs : List Int) (e0 : Int) (fv : Value) (w : World) (h : Rdr w r rb v bs e0) (he : e0 ≠ 0) :
    Calls Tryz.prog 106 #[.pointer (some ⟨r, 0, none⟩), fv] w fun e w' => e = .returned (.int .u8 0) ∧ Rdr w' r rb v bs e0 ∧ RFr r w w' := by
  have c1 := h.c1
  have hr := h.lt
  have H := hide h
  have he' : (e0 != 0) = true := by rw [bne_iff_ne]; exact he
  clear h he
  go_enter_defers Tryz.func106, Tryz.ntmps106
  go_wp2
  exact ⟨_, results_tmp rfl _ _ _, rfl, (unhide H).alloc _, (Fr.refl _ _).alloc _⟩
end Go.Proofs.YtclcebdcdbcpjaaGreat
