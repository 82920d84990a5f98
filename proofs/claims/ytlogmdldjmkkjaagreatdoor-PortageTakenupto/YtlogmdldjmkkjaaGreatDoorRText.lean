/-
  Text of a reader.
-/
import Derived.Test.YtlogmdldjmkkjaaGreatDoorWritten
import Derived.Deep.QuietTactic
import Derived.BigQuiet
import Derived.Test.YtlogmdldjmkkjaaGreatDoorRows
import Derived.WalkKit
import Derived.WalkSpells
import Derived.WalkLawsBesides
import Derived.Defers
import Derived.Recover
import Derived.Laws.Pointers
import Derived.Below
import Derived.Test.YtlogmdldjmkkjaaGreatDoorDigits
import Derived.Deep.RegionHeld3
import Derived.Lib.BufferRead
import Derived.Laws.IdiomStrings
namespace Go.Proofs.YtlogmdldjmkkjaaGreatDoor
open Go.RowKit

/-- The k-th byte of a word. -/
def wby (x k : Nat) : Nat := x / 2 ^ (56 - 8 * k) % 256
/-- Above the k-th byte x and y are one. -/
def PEq (x y k : Nat) : Prop := x / 2 ^ (64 - 8 * k) = y / 2 ^ (64 - 8 * k)

theorem pow_split (k : Nat) (hk : k < 8) : (2 : Nat) ^ (64 - 8 * k) = 2 ^ (56 - 8 * k) * 256 := by
  rw [show 64 - 8 * k = (56 - 8 * k) + 8 from by omega, Nat.pow_add]
theorem PEq.start (x y : Nat) (hx : x < 2 ^ 64) (hy : y < 2 ^ 64) : PEq x y 0 := by
  unfold PEq; rw [Nat.div_eq_of_lt (by simpa using hx), Nat.div_eq_of_lt (by simpa using hy)]
theorem PEq.next {x y k : Nat} (h : PEq x y k) (hk : k < 8) (e : wby x k = wby y k) : PEq x y (k + 1) := by
  unfold PEq wby at *
  rw [pow_split k hk, ← Nat.div_div_eq_div_mul, ← Nat.div_div_eq_div_mul] at h
  rw [show 64 - 8 * (k + 1) = 56 - 8 * k from by omega]
  omega
theorem PEq.done {x y : Nat} (h : PEq x y 8) : x = y := by simpa [PEq] using h
theorem lt_of_div_lt {x y n : Nat} (h : x / n < y / n) : x < y := by
  rcases Nat.lt_or_ge x y with h' | h'
  · exact h'
  · have := Nat.div_le_div_right (c := n) h'; omega
theorem PEq.ne {x y k : Nat} (h : PEq x y k) (hk : k < 8) (e : wby x k ≠ wby y k) : (wby x k < wby y k ↔ x < y) ∧ x ≠ y := by
  unfold PEq wby at *
  rw [pow_split k hk, ← Nat.div_div_eq_div_mul, ← Nat.div_div_eq_div_mul] at h
  generalize hX : x / 2 ^ (56 - 8 * k) = X at *
  generalize hY : y / 2 ^ (56 - 8 * k) = Y at *
  rcases Nat.lt_or_ge X Y with h' | h'
  · have := lt_of_div_lt (x := x) (y := y) (n := 2 ^ (56 - 8 * k)) (by omega)
    omega
  · have := lt_of_div_lt (x := y) (y := x) (n := 2 ^ (56 - 8 * k)) (by omega)
    omega

theorem drewN_drewN (w : World) (a b : Nat) : (w.drewN a).drewN b = w.drewN (a + b) := by
  simp [World.drewN, Nat.add_assoc]



theorem ta_nil (w : World) : (Instr.typeAssert .nilIface 20 33 true).run Tryz.prog w = .ok (.tuple #[.int .i64 0, .bool false]) w := by kernel_rfl
theorem ta_err (k : Int) (w : World) : (Instr.typeAssert (.iface 33 (.int .i64 k)) 20 33 true).run Tryz.prog w = .ok (.tuple #[.int .i64 k, .bool true]) w := by kernel_rfl

theorem catch_idle (p q : Addr) (w : World) :
    CallsD Tryz.prog 204 #[.pointer (some p), .pointer (some q)] .returning w fun e u' w' => e = .returned (.tuple #[]) ∧ u' = .returning ∧ w' = w := by
  refine callsD_of_wpS Tryz.func204 rfl fun c₀ cs hu => ?_
  apply wpS_seq
  apply wpS_region
  simp [wpOpsS, go_sem, recoverD, hu, Tryz.ntmps204, Exit.thenS, ta_nil]
  apply wpS_seq
  apply wpS_region
  simp [wpOpsS, go_sem, Exit.thenS]
  refine wpS_cond (t := false) (by simp [Act.eval, Array.replicate]) ?_
  simp only [Bool.false_eq_true, if_false]
  refine wpS_of_wp (wp_skip ?_)
  cases c₀
  simp_all [bodyPostS, results, Tryz.results204]

set_option maxHeartbeats 400000 in
set_option maxRecDepth 100000 in
theorem catch_panicking (r : Nat) (p q : Addr) (u0 : Value) (a0 : Option Addr) (l0 c0 : Nat) (x0 k : Int) (w : World) (hp : w.cell? p = some (.slice a0 l0 c0)) (hq : w.cell? q = some (.pointer (some ⟨r, 0, none⟩)))
    (h0 : w.cell? ⟨r, 0, none⟩ = some u0) (h1 : w.cell? ⟨r, 1, none⟩ = some (.int .i64 x0)) (f0 : w.frozen? ⟨r, 0, none⟩ = false) (f1 : w.frozen? ⟨r, 1, none⟩ = false) :
    CallsD Tryz.prog 204 #[.pointer (some p), .pointer (some q)] (.panicking [{ v := .iface 33 (.int .i64 k), recovered := false }]) w fun e u' w' =>
      e = .returned (.tuple #[]) ∧ u' = .panicking [{ v := .iface 33 (.int .i64 k), recovered := true }] ∧ w' = (w.setCell ⟨r, 0, none⟩ (.slice a0 l0 c0)).setCell ⟨r, 1, none⟩ (.int .i64 k) := by
  refine callsD_of_wpS Tryz.func204 rfl fun c₀ cs hu => ?_
  apply wpS_seq
  apply wpS_region
  simp [wpOpsS, go_sem, recoverD, hu, Tryz.ntmps204, Exit.thenS, ta_err]
  apply wpS_seq
  apply wpS_region
  simp [wpOpsS, go_sem, Exit.thenS]
  refine wpS_cond (t := true) (by simp [Act.eval, Array.replicate]) ?_
  simp only [if_true]
  simp [Array.replicate]
  refine wpS_of_wp ?_
  go_wp2
  exact ⟨rfl, _, rfl, _, by simp [results, Tryz.results204], rfl, rfl, rfl⟩


/-- At block r lies a reader: the bytes bs are left, in the slice v; its error is e. -/
structure Rdr (w : World) (r rb : Nat) (v : Value) (bs : List Int) (e : Int) : Prop where
  c0 : w.cell? ⟨r, 0, none⟩ = some v
  c1 : w.cell? ⟨r, 1, none⟩ = some (.int .i64 e)
  f0 : w.frozen? ⟨r, 0, none⟩ = false
  f1 : w.frozen? ⟨r, 1, none⟩ = false
  rd : Rd w v bs
  ap : ∀ b off len cap, v = .slice (some ⟨b, off, none⟩) len cap → b = rb
  ne : rb ≠ r

/-- All blocks but r are as they were, and there are new ones. -/
def RFr (r : Nat) (w w' : World) : Prop := Fr (fun k => k = r) w w'

theorem Rdr.lt {w : World} {r rb : Nat} {v : Value} {bs : List Int} {e : Int} (h : Rdr w r rb v bs e) : r < w.heap.size := World.block_lt_of_cell? _ _ h.c0
theorem Rdr.len {w : World} {r rb : Nat} {v : Value} {bs : List Int} {e : Int} (h : Rdr w r rb v bs e) : bs.length ≤ maxLen := by
  rcases h.rd with ⟨_, rfl⟩ | ⟨b, off, cap, _, h1, h2, _⟩
  · simp
  · omega

theorem Rdr.keep {w w' : World} {r rb : Nat} {v : Value} {bs : List Int} {e : Int} {S : Nat → Prop} (h : Rdr w r rb v bs e) (f : Fr S w w') (hr : ¬ S r) (hS : ∀ b off len cap, v = .slice (some ⟨b, off, none⟩) len cap → ¬ S b) : Rdr w' r rb v bs e :=
  ⟨(f.cell (a := ⟨r, 0, none⟩) h.lt hr).trans h.c0, (f.cell (a := ⟨r, 1, none⟩) h.lt hr).trans h.c1, (f.frozen (a := ⟨r, 0, none⟩) h.lt hr).trans h.f0, (f.frozen (a := ⟨r, 1, none⟩) h.lt hr).trans h.f1, h.rd.keep f hS, h.ap, h.ne⟩
theorem Rdr.alloc {w : World} {r rb : Nat} {v : Value} {bs : List Int} {e : Int} (h : Rdr w r rb v bs e) (o : Obj) : Rdr (w.alloc o) r rb v bs e :=
  h.keep (S := fun _ => False) ((Fr.refl _ _).alloc o) (by simp) (by simp)

theorem Rdr.shape {w : World} {r rb : Nat} {v : Value} {bs : List Int} {e : Int} (h : Rdr w r rb v bs e) : ∃ a cap, v = .slice a bs.length cap := by
  rcases h.rd with ⟨rfl, rfl⟩ | ⟨b, off, cap, rfl, _⟩
  · exact ⟨none, 0, rfl⟩
  · exact ⟨_, cap, rfl⟩

def errPanic (k : Int) : Ending := .panicked [{ v := .iface 33 (.int .i64 k), recovered := false }]

set_option maxHeartbeats 400000 in
set_option maxRecDepth 100000 in
theorem take_neg (r : Nat) (n : Int) (w : World) (hn : n < 0) :
    Calls Tryz.prog 135 #[.pointer (some ⟨r, 0, none⟩), .int .i64 n] w fun e w' => e = errPanic 1 ∧ w' = w := by
  go_enter Tryz.func135, Tryz.ntmps135
  go_wp2
  exact ⟨rfl, rfl, rfl⟩

set_option maxHeartbeats 400000 in
set_option maxRecDepth 100000 in
theorem take_short (r : Nat) {rb : Nat} (n : Int) (v : Value) (bs : List Int) (e0 : Int) (w : World) (h : Rdr w r rb v bs e0) (hn : (bs.length : Int) < n) :
    Calls Tryz.prog 135 #[.pointer (some ⟨r, 0, none⟩), .int .i64 n] w fun e w' => e = errPanic 2 ∧ w' = w := by
  obtain ⟨a, cap, rfl⟩ := h.shape
  have c0 := h.c0
  have hn0 : ¬ n < 0 := by omega
  clear h
  go_enter Tryz.func135, Tryz.ntmps135
  go_wp2
  exact ⟨rfl, rfl, rfl⟩

set_option maxHeartbeats 400000 in
set_option maxRecDepth 100000 in
theorem take_some (r b off cap len n : Nat) (w : World) (c0 : w.cell? ⟨r, 0, none⟩ = some (.slice (some ⟨b, off, none⟩) len cap)) (f0 : w.frozen? ⟨r, 0, none⟩ = false) (hn : n ≤ len) (hl : len ≤ cap) (_hm : cap ≤ 9223372036854775807) :
    Calls Tryz.prog 135 #[.pointer (some ⟨r, 0, none⟩), .int .i64 n] w fun e w' => e = .returned (.slice (some ⟨b, off, none⟩) n cap) ∧
      ∃ o', w' = w.setCell ⟨r, 0, none⟩ (.slice (some ⟨b, o', none⟩) (len - n) (cap - n)) ∧ (len - n = 0 ∨ o' = off + n) := by
  have hn0 : ¬ ((n : Int) < 0) := by omega
  by_cases hcn : cap = n
  · go_enter Tryz.func135, Tryz.ntmps135
    go_wp2
    go_ret
    exact ⟨by first | rfl | simp [hcn], _, rfl, .inl (by omega)⟩
  · go_enter Tryz.func135, Tryz.ntmps135
    go_wp2
    go_ret
    exact ⟨rfl, _, rfl, .inr rfl⟩

set_option maxHeartbeats 400000 in
set_option maxRecDepth 100000 in
theorem take_nil (r : Nat) (w : World) (c0 : w.cell? ⟨r, 0, none⟩ = some (.slice none 0 0)) (f0 : w.frozen? ⟨r, 0, none⟩ = false) :
    Calls Tryz.prog 135 #[.pointer (some ⟨r, 0, none⟩), .int .i64 0] w fun e w' => e = .returned (.slice none 0 0) ∧ w' = w.setCell ⟨r, 0, none⟩ (.slice none 0 0) := by
  go_enter Tryz.func135, Tryz.ntmps135
  go_wp2
  go_ret
  exact ⟨rfl, rfl⟩

theorem RFr.refl (r : Nat) (w : World) : RFr r w w := Fr.refl _ _
theorem RFr.trans {r : Nat} {a b c : World} (h : RFr r a b) (k : RFr r b c) : RFr r a c := Fr.trans h k

/-- Behind the store of what is left. -/
theorem Rdr.stored {w : World} {r rb : Nat} {v v' : Value} {bs bs' : List Int} {e : Int} (h : Rdr w r rb v bs e) (hR : Rd w v' bs') (ha : ∀ b off len cap, v' = .slice (some ⟨b, off, none⟩) len cap → b = rb) :
    Rdr (w.setCell ⟨r, 0, none⟩ v') r rb v' bs' e ∧ RFr r w (w.setCell ⟨r, 0, none⟩ v') := by
  have hf : RFr r w (w.setCell ⟨r, 0, none⟩ v') := Fr.setCell (S := fun k => k = r) (Fr.refl _ w) ⟨r, 0, none⟩ (.inr rfl) v'
  refine ⟨⟨World.cell?_setCell_same _ _ _ h.c0, ?_, by rw [World.frozen?_setCell]; exact h.f0, by rw [World.frozen?_setCell]; exact h.f1, ?_, ha, h.ne⟩, hf⟩
  · rw [World.cell?_setCell_other _ _ _ _ (by simp)]; exact h.c1
  · exact hR.keep hf (fun b off len cap hv e => h.ne ((ha b off len cap hv).symm.trans e))

/-- take, of so many bytes as are left or fewer. -/
theorem take_ok (r : Nat) {rb : Nat} (n : Nat) (v : Value) (bs : List Int) (e0 : Int) (w : World) (h : Rdr w r rb v bs e0) (hn : n ≤ bs.length) :
    Calls Tryz.prog 135 #[.pointer (some ⟨r, 0, none⟩), .int .i64 n] w fun e w' => ∃ v1 v2, e = .returned v1 ∧ Rd w' v1 (bs.take n) ∧ (∀ b off len cap, v1 = .slice (some ⟨b, off, none⟩) len cap → b = rb) ∧ Rdr w' r rb v2 (bs.drop n) e0 ∧ RFr r w w' := by
  rcases h.rd with ⟨rfl, rfl⟩ | ⟨b, off, cap, rfl, h1, h2, h3, h4⟩
  · obtain rfl : n = 0 := by simpa using hn
    refine (take_nil r w h.c0 h.f0).mono ?_
    rintro e w' ⟨rfl, rfl⟩
    have hs := h.stored (v' := .slice none 0 0) (bs' := []) (.inl ⟨rfl, rfl⟩) (by simp)
    exact ⟨_, _, rfl, .inl ⟨rfl, rfl⟩, by simp, hs.1, hs.2⟩
  · refine (take_some r b off cap bs.length n w h.c0 h.f0 hn h1 (by unfold maxLen at h2; omega)).mono ?_
    rintro e w' ⟨rfl, o', rfl, ho⟩
    have hb := h.ap b off _ cap rfl
    have hR1 : Rd w (.slice (some ⟨b, off, none⟩) n cap) (bs.take n) := by
      refine .inr ⟨b, off, cap, by rw [List.length_take, Nat.min_eq_left hn], by rw [List.length_take]; omega, h2, h3, fun i hi => ?_⟩
      rw [List.length_take] at hi
      rw [h4 i (by omega)]
      simp [List.getD, show i < n from by omega]
    have hR2 : Rd w (.slice (some ⟨b, o', none⟩) (bs.length - n) (cap - n)) (bs.drop n) := by
      refine .inr ⟨b, o', cap - n, by rw [List.length_drop], by rw [List.length_drop]; omega, by omega, h3, fun i hi => ?_⟩
      rw [List.length_drop] at hi
      rcases ho with ho | rfl
      · omega
      · rw [Nat.add_assoc, h4 (n + i) (by omega)]
        simp [List.getD, List.getElem?_drop]
    have hs := h.stored hR2 (by intro b' off' len' cap' hv; simp at hv; rw [← hv.1.1]; exact hb)
    refine ⟨_, _, rfl, hR1.keep hs.2 ?_, ?_, hs.1, hs.2⟩
    · intro b' off' len' cap' hv e; simp at hv; exact h.ne (hb.symm.trans (hv.1.1.trans e))
    · intro b' off' len' cap' hv; simp at hv; rw [← hv.1.1]; exact hb

set_option maxHeartbeats 400000 in
set_option maxRecDepth 100000 in
/-- one, of no bytes. -/
theorem one_short (r : Nat) {rb : Nat} (v : Value) (e0 : Int) (w : World) (h : Rdr w r rb v [] e0) :
    Calls Tryz.prog 178 #[.pointer (some ⟨r, 0, none⟩)] w fun e w' => e = errPanic 2 ∧ w' = w := by
  have hT := hide (take_short r 1 v [] e0 w h (by simp))
  clear h
  go_enter Tryz.func178, Tryz.ntmps178
  go_wp2_with fail
  refine (unhide hT).mono ?_
  rintro e w' ⟨rfl, rfl⟩
  exact ⟨rfl, rfl, rfl⟩

set_option maxHeartbeats 400000 in
set_option maxRecDepth 100000 in
/-- one. -/
theorem one_ok (r : Nat) {rb : Nat} (v : Value) (b : Int) (bs : List Int) (e0 : Int) (w : World) (h : Rdr w r rb v (b :: bs) e0) :
    Calls Tryz.prog 178 #[.pointer (some ⟨r, 0, none⟩)] w fun e w' => e = .returned (.int .u8 b) ∧ ∃ v2, Rdr w' r rb v2 bs e0 ∧ RFr r w w' := by
  have hT := hide (take_ok r 1 v (b :: bs) e0 w h (by simp))
  clear h
  go_enter Tryz.func178, Tryz.ntmps178
  go_wp2_with fail
  refine (unhide hT).mono ?_
  rintro e w' ⟨v1, v2, rfl, hR, _, hW, hF⟩
  rcases hR with ⟨_, hR⟩ | ⟨g, off, cap, rfl, h1, h2, h3, h4⟩
  · simp at hR
  · have hc := h4 0 (by simp)
    have hl : ((b :: bs).take 1).length = 1 := by simp
    rw [hl] at h1 ⊢
    have hc' : w'.cell? ⟨g, off, none⟩ = some (.int .u8 b) := by simpa using hc
    have HW := hide hW
    have HF := hide hF
    clear h4 hc hl h3 h2 hW hF hT
    go_wp2
    go_ret
    exact ⟨rfl, v2, unhide HW, unhide HF⟩


theorem RFr.alloc2 (r : Nat) (w : World) (o p : Obj) : RFr r w ((w.alloc o).alloc p) := ((Fr.refl _ w).alloc o).alloc p
/-- Behind a part that gave up: what was left ahead of it is put back, and the error kept. -/
theorem Rdr.back {w w' : World} {r rb : Nat} {v v2 : Value} {bs bs2 : List Int} (h : Rdr w' r rb v2 bs2 0) (h0 : Rdr w r rb v bs 0) (f : RFr r w w') (k : Int) :
    Rdr ((w'.setCell ⟨r, 0, none⟩ v).setCell ⟨r, 1, none⟩ (.int .i64 k)) r rb v bs k ∧ RFr r w ((w'.setCell ⟨r, 0, none⟩ v).setCell ⟨r, 1, none⟩ (.int .i64 k)) := by
  have hf : RFr r w ((w'.setCell ⟨r, 0, none⟩ v).setCell ⟨r, 1, none⟩ (.int .i64 k)) :=
    Fr.setCell (S := fun k => k = r) (Fr.setCell (S := fun k => k = r) f ⟨r, 0, none⟩ (.inr rfl) v) ⟨r, 1, none⟩ (.inr rfl) _
  refine ⟨⟨?_, ?_, by simp only [World.frozen?_setCell]; exact h.f0, by simp only [World.frozen?_setCell]; exact h.f1, h0.rd.keep hf (fun b off len cap hv e => h0.ne ((h0.ap b off len cap hv).symm.trans e)), h0.ap, h0.ne⟩, hf⟩
  · rw [World.cell?_setCell_other _ _ _ _ (by simp)]; exact World.cell?_setCell_same _ _ _ h.c0
  · exact World.cell?_setCell_same _ _ _ (by rw [World.cell?_setCell_other _ _ _ _ (by simp)]; exact h.c1)

theorem enters45 (args : Array Value) (w : World) : (callFunc 178 args).run Tryz.prog w = .ok (.enter 178 args) w := by kernel_rfl

set_option maxHeartbeats 800000 in
set_option maxRecDepth 100000 in
theorem read8_ok (r : Nat) {rb : Nat} (v : Value) (bs bs' : List Int) (F : Nat) (first cap : Array Value) (val : Value) (w : World) (h : Rdr w r rb v bs 0) (hF : ∀ args w, (callFunc F args).run Tryz.prog w = .ok (.enter F args) w)
    (hp : ∀ w1, RFr r w w1 → Rdr w1 r rb v bs 0 → Calls Tryz.prog F (first ++ cap) w1 fun e w' => e = .returned val ∧ ∃ v2, Rdr w' r rb v2 bs' 0 ∧ RFr r w1 w') :
    Calls Tryz.prog 177 #[.pointer (some ⟨r, 0, none⟩), .func (Fn.func F) first cap] w fun e w' => e = .returned val ∧ ∃ v2, Rdr w' r rb v2 bs' 0 ∧ RFr r w w' := by
  have hmf : ∀ (fn : Fn) (first cap : Array Value) (w : World), (Instr.makeFunc fn first cap).run Tryz.prog w = .ok (.func fn first cap) w := fun _ _ _ _ => rfl
  have c0 := h.c0
  have c1 := h.c1
  have hr := h.lt
  have HP := hide hp
  have H := hide h
  obtain ⟨a0, cap0, rfl⟩ := h.shape
  clear h hp
  go_enter_defers Tryz.func177, Tryz.ntmps177
  go_wp2_with fail
  refine (unhide HP _ (RFr.alloc2 _ _ _ _) (((unhide H).alloc _).alloc _)).mono ?_
  rintro e w' ⟨rfl, v2, hW, hR⟩
  have HH := hide (And.intro hW hR)
  clear hW hR
  go_wp2
  refine leaves_cons (f := 204) (args := #[.pointer (some ⟨w.heap.size + 1, 0, none⟩), .pointer (some ⟨w.heap.size, 0, none⟩)]) (by simp) (by simp [go_sem]) ?_
  refine (catch_idle _ _ _).mono ?_
  rintro e u' w'' ⟨rfl, rfl, rfl⟩
  exact ⟨_, results_tmp rfl _ _ _, rfl, v2, (unhide HH).1, (RFr.alloc2 _ _ _ _).trans (unhide HH).2⟩

set_option maxHeartbeats 800000 in
set_option maxRecDepth 100000 in
theorem read8_fail (r : Nat) {rb : Nat} (v : Value) (bs : List Int) (F : Nat) (first cap : Array Value) (k : Int) (w : World) (h : Rdr w r rb v bs 0) (hF : ∀ args w, (callFunc F args).run Tryz.prog w = .ok (.enter F args) w)
    (hp : ∀ w1, RFr r w w1 → Rdr w1 r rb v bs 0 → Calls Tryz.prog F (first ++ cap) w1 fun e w' => e = errPanic k ∧ ∃ v2 bs2, Rdr w' r rb v2 bs2 0 ∧ RFr r w1 w') :
    Calls Tryz.prog 177 #[.pointer (some ⟨r, 0, none⟩), .func (Fn.func F) first cap] w fun e w' => e = .returned (.int .u8 0) ∧ Rdr w' r rb v bs k ∧ RFr r w w' := by
  have hmf : ∀ (fn : Fn) (first cap : Array Value) (w : World), (Instr.makeFunc fn first cap).run Tryz.prog w = .ok (.func fn first cap) w := fun _ _ _ _ => rfl
  have c0 := h.c0
  have c1 := h.c1
  have hr := h.lt
  have HP := hide hp
  have H := hide h
  obtain ⟨a0, cap0, rfl⟩ := h.shape
  clear h hp
  go_enter_defers Tryz.func177, Tryz.ntmps177
  go_wp2_with fail
  refine (unhide HP _ (RFr.alloc2 _ _ _ _) (((unhide H).alloc _).alloc _)).mono ?_
  rintro e w' ⟨rfl, v2, bs2, hW, hR⟩
  have HH := hide (And.intro hW hR)
  clear hW hR
  refine leaves_cons (f := 204) (args := #[.pointer (some ⟨w.heap.size + 1, 0, none⟩), .pointer (some ⟨w.heap.size, 0, none⟩)]) (by simp) (by simp [go_sem]) ?_
  refine (catch_panicking r ⟨w.heap.size + 1, 0, none⟩ ⟨w.heap.size, 0, none⟩ v2 a0 bs.length cap0 0 k w' ?_ ?_ (unhide HH).1.c0 (unhide HH).1.c1 (unhide HH).1.f0 (unhide HH).1.f1).mono ?_
  · rw [(unhide HH).2.cell (a := ⟨w.heap.size + 1, 0, none⟩) (by simp) (by simp; omega)]; simp
  · rw [(unhide HH).2.cell (a := ⟨w.heap.size, 0, none⟩) (by simp; omega) (by simp; omega)]; simp
  rintro e u' w'' ⟨rfl, rfl, rfl⟩
  have hback := (unhide HH).1.back (unhide H) ((RFr.alloc2 _ _ _ _).trans (unhide HH).2) k
  exact ⟨_, results_tmp rfl _ _ _, rfl, hback.1, hback.2⟩

set_option maxHeartbeats 800000 in
set_option maxRecDepth 100000 in
theorem read8_err (r : Nat) {rb : Nat} (v : Value) (bs : List Int) (e0 : Int) (fv : Value) (w : World) (h : Rdr w r rb v bs e0) (he : e0 ≠ 0) :
    Calls Tryz.prog 177 #[.pointer (some ⟨r, 0, none⟩), fv] w fun e w' => e = .returned (.int .u8 0) ∧ Rdr w' r rb v bs e0 ∧ RFr r w w' := by
  have c1 := h.c1
  have hr := h.lt
  have H := hide h
  have he' : (e0 != 0) = true := by rw [bne_iff_ne]; exact he
  clear h he
  go_enter_defers Tryz.func177, Tryz.ntmps177
  go_wp2
  exact ⟨_, results_tmp rfl _ _ _, rfl, (unhide H).alloc _, (Fr.refl _ _).alloc _⟩


/-- All are bytes. -/
def BOk (bs : List Int) : Prop := ∀ b ∈ bs, 0 ≤ b ∧ b < 256

/-- The form of a number from its i-th byte on: the number and what is left behind it, or the error. -/
def unum : Nat → Nat → List Int → Except Int (Nat × List Int)
  | _, _, [] => .error 2
  | i, acc, b :: t => if i = 9 ∧ b ≠ 1 ∨ 0 < i ∧ b = 0 then .error 4 else
      if b < 128 then .ok (acc + (b.toNat % 128) * 128 ^ i, t) else unum (i + 1) (acc + (b.toNat % 128) * 128 ^ i) t

theorem unum_cons (i acc : Nat) (b : Int) (t : List Int) : unum i acc (b :: t) = if i = 9 ∧ b ≠ 1 ∨ 0 < i ∧ b = 0 then .error 4 else
      if b < 128 then .ok (acc + (b.toNat % 128) * 128 ^ i, t) else unum (i + 1) (acc + (b.toNat % 128) * 128 ^ i) t := by rw [unum]

/-- What a part of a reader comes to. -/
def Came (r rb : Nat) (w : World) (e0 : Int) (f : Nat → Value) (o : Except Int (Nat × List Int)) (e : Ending) (w' : World) : Prop :=
  match o with
  | .ok (x, t) => e = .returned (f x) ∧ ∃ v2, Rdr w' r rb v2 t e0 ∧ RFr r w w'
  | .error k => e = errPanic k ∧ ∃ v2 bs2, Rdr w' r rb v2 bs2 e0 ∧ RFr r w w'

theorem and127 : ∀ n : Fin 256, n.val &&& 127 = n.val % 128 := by decide +kernel
theorem and127i (b : Int) (h0 : 0 ≤ b) (h1 : b < 256) : bits BinOp.and IntKind.u8 b 127 = ((b.toNat % 128 : Nat) : Int) := by
  have h := u8_and_nat b.toNat 127 (by omega) (by omega)
  rw [and127 ⟨b.toNat, by omega⟩, Int.toNat_of_nonneg h0] at h
  exact h
theorem pow9 {i : Nat} (hi : i ≤ 9) : 128 ^ i ≤ 2 ^ 63 := Nat.le_trans (Nat.pow_le_pow_right (by omega) hi) (by decide)
/-- A digit laid above the digits so far. -/
theorem or_digit (i acc c : Nat) (hi : i ≤ 9) (ha : acc < 128 ^ i) (hc : c * 128 ^ i < 2 ^ 64) : bits .or .u64 (acc : Int) ((c * 128 ^ i : Nat) : Int) = ((acc + c * 128 ^ i : Nat) : Int) := by
  have e : (128 : Nat) ^ i = 2 ^ (7 * i) := by rw [Nat.pow_mul]
  have h2 := Nat.two_pow_add_eq_or_of_lt (i := 7 * i) (b := acc) (by rw [← e]; exact ha) c
  rw [← e, Nat.mul_comm] at h2
  have h3 := pow9 hi
  rw [u64_or_nat acc (c * 128 ^ i) (by omega) (by omega), Nat.or_comm, ← h2, Nat.add_comm]

theorem wrapU (n : Nat) (h : n < 2 ^ 64) : IntKind.u64.wrap (n : Int) = (n : Int) := by
  simp only [IntKind.wrap_u64]; omega
theorem or9 (acc c : Nat) (hc : c = 1) (ha : acc < 128 ^ 9) : bits .or .u64 (acc : Int) (IntKind.u64.wrap ((c : Int) * 9223372036854775808)) = ((acc + c * 128 ^ 9 : Nat) : Int) := by
  subst hc
  rw [← or_digit 9 acc 1 (by omega) ha (by decide)]
  rfl
theorem or_lt (i acc c : Nat) (hi : i < 9) (hc : c < 128) (ha : acc < 128 ^ i) : bits .or .u64 (acc : Int) (IntKind.u64.wrap ((c : Int) * 2 ^ (7 * i))) = ((acc + c * 128 ^ i : Nat) : Int) := by
  have e : (128 : Nat) ^ i = 2 ^ (7 * i) := by rw [Nat.pow_mul]
  have h1 : 128 ^ (i + 1) ≤ 2 ^ 63 := pow9 (by omega)
  have h2 : c * 128 ^ i < 128 ^ (i + 1) := by rw [Nat.pow_succ, Nat.mul_comm (128 ^ i)]; exact Nat.mul_lt_mul_of_pos_right hc (Nat.pow_pos (by omega))
  rw [← or_digit i acc c (by omega) ha (by omega), show ((c : Int) * 2 ^ (7 * i)) = ((c * 128 ^ i : Nat) : Int) from by rw [e, Int.natCast_mul, Int.natCast_pow]; rfl, wrapU _ (by omega)]
theorem or_first (acc c : Nat) (hc : c < 128) (ha : acc < 128 ^ 0) : bits .or .u64 (acc : Int) (c : Int) = ((acc + c * 128 ^ 0 : Nat) : Int) := by
  rw [← or_digit 0 acc c (by omega) ha (by omega)]; simp
theorem acc_next {i acc c : Nat} (hc : c < 128) (ha : acc < 128 ^ i) : acc + c * 128 ^ i < 128 ^ (i + 1) := by
  have h2 : c * 128 ^ i + 128 ^ i ≤ 128 ^ (i + 1) := by
    rw [Nat.pow_succ, Nat.mul_comm (128 ^ i), ← Nat.succ_mul]; exact Nat.mul_le_mul_right _ hc
  omega

set_option maxHeartbeats 1600000 in
set_option maxRecDepth 100000 in
theorem number_any (r : Nat) {rb : Nat} (v : Value) (bs : List Int) (e0 : Int) (w : World) (h : Rdr w r rb v bs e0) (hB : BOk bs) :
    Calls Tryz.prog 201 #[.pointer (some ⟨r, 0, none⟩)] w fun e w' => Came r rb w e0 (fun x => .int .u64 x) (unum 0 0 bs) e w' := by
  obtain ⟨o, ho⟩ : ∃ o, Hid (unum 0 0 bs = o) := ⟨_, rfl⟩
  rw [unhide ho]
  have HB := hide hB
  have H := hide h
  clear h hB
  go_enter Tryz.func201, Tryz.ntmps201
  go_wp2
  go_loopg [3, 4, 5] 10 (fun k x s _ wr => ∃ (i acc : Nat) (rest : List Int) (v2 : Value), Hid (i + k = 10) ∧ Hid (acc < 128 ^ i) ∧ i ≤ 9 ∧ x = .int .u64 (acc : Int) ∧ s = .int .i64 (7 * (i : Int)) ∧
    Hid (Rdr wr r rb v2 rest e0 ∧ BOk rest ∧ RFr r w wr ∧ unum i acc rest = o))
  case atStart => exact ⟨0, 0, bs, v, rfl, by unfold Hid; simp, by omega, rfl, rfl, unhide H, unhide HB, RFr.refl _ _, unhide ho⟩
  case round =>
    obtain ⟨i, acc, rest, v2, hik, hacc, hi9, rfl, rfl, hR⟩ := hrel
    cases rest with
    | nil =>
      have hO := hide (one_short r v2 e0 wr (unhide hR).1)
      go_wp2_with fail
      refine (unhide hO).mono ?_
      rintro e w' ⟨rfl, rfl⟩
      refine ⟨rfl, ?_⟩
      rw [← (unhide hR).2.2.2]
      exact ⟨rfl, v2, [], (unhide hR).1, (unhide hR).2.2.1⟩
    | cons b t =>
      obtain ⟨hb0, hb1⟩ := (unhide hR).2.1 b (by simp)
      have hO := hide (one_ok r v2 b t e0 wr (unhide hR).1)
      have hBt : Hid (BOk t) := fun b hb => (unhide hR).2.1 b (by simp [hb])
      by_cases h1 : i = 9 ∧ b ≠ 1
      · have hU : Hid (Except.error 4 = o) := by rw [← (unhide hR).2.2.2, unum_cons, if_pos (.inl h1)]; rfl
        obtain ⟨rfl, hb⟩ := h1
        have q1 : (b != 1) = true := by rw [bne_iff_ne]; exact hb
        clear hb
        go_wp2_with fail
        refine (unhide hO).mono ?_
        rintro e w' ⟨rfl, v3, hW, hF⟩
        have HW := hide (And.intro hW hF)
        clear hW hF
        go_wp2
        refine ⟨rfl, ?_⟩
        rw [← unhide hU]
        exact ⟨rfl, v3, t, (unhide HW).1, (unhide hR).2.2.1.trans (unhide HW).2⟩
      by_cases h2 : 0 < i ∧ b = 0
      · have hU : Hid (Except.error 4 = o) := by rw [← (unhide hR).2.2.2, unum_cons, if_pos (.inr h2)]; rfl
        obtain ⟨hi0, rfl⟩ := h2
        have q1 : ((7 * (i : Int)) == 63) = false := by rw [beq_eq_false_iff_ne]; intro e; exact h1 ⟨by omega, by simp⟩
        have q2 : (0 : Int) < 7 * (i : Int) := by omega
        clear h1
        go_wp2_with fail
        refine (unhide hO).mono ?_
        rintro e w' ⟨rfl, v3, hW, hF⟩
        have HW := hide (And.intro hW hF)
        clear hW hF
        go_wp2
        refine ⟨rfl, ?_⟩
        rw [← unhide hU]
        exact ⟨rfl, v3, t, (unhide HW).1, (unhide hR).2.2.1.trans (unhide HW).2⟩
      have hU := (unhide hR).2.2.2
      rw [unum_cons, if_neg (fun h => h.elim h1 h2)] at hU
      have HU := hide hU
      have hand := and127i b hb0 hb1
      obtain ⟨c, hc⟩ : ∃ c, b.toNat % 128 = c := ⟨_, rfl⟩
      have hc1 : c < 128 := by omega
      rw [hc] at hand HU
      have HC := hide hc
      clear hU hc
      by_cases h9 : i = 9
      · subst h9
        obtain rfl : b = 1 := by
          rcases Int.decEq b 1 with h | h
          · exact (h1 ⟨rfl, h⟩).elim
          · exact h
        go_wp2_with fail
        refine (unhide hO).mono ?_
        rintro e w' ⟨rfl, v3, hW, hF⟩
        have HW := hide (And.intro hW hF)
        clear hW hF
        go_wp2
        go_ret
        rw [← unhide HU, if_pos (by omega)]
        exact ⟨ret_int (or9 acc c (unhide HC).symm (unhide hacc)), v3, (unhide HW).1, (unhide hR).2.2.1.trans (unhide HW).2⟩
      · have hi8 : i < 9 := by omega
        have HN := hide (acc_next hc1 (unhide hacc))
        by_cases h0 : i = 0
        · subst h0
          clear h1 h2
          by_cases hlt : b < 128
          · go_wp2_with fail
            refine (unhide hO).mono ?_
            rintro e w' ⟨rfl, v3, hW, hF⟩
            have HW := hide (And.intro hW hF)
            clear hW hF
            go_wp2
            go_ret
            rw [← unhide HU, if_pos hlt]
            exact ⟨ret_int (or_first acc c hc1 (unhide hacc)), v3, (unhide HW).1, (unhide hR).2.2.1.trans (unhide HW).2⟩
          · go_wp2_with fail
            refine (unhide hO).mono ?_
            rintro e w' ⟨rfl, v3, hW, hF⟩
            have HW := hide (And.intro hW hF)
            clear hW hF
            go_wp2
            go_roundg (gk - 1)
            case measure => have := unhide hik; omega
            case rel => exact ⟨0 + 1, acc + c * 128 ^ 0, t, v3, by have := unhide hik; unfold Hid; omega, unhide HN, by omega, congrArg (Value.int IntKind.u64) (or_first acc c hc1 (unhide hacc)), by go_num, (unhide HW).1, unhide hBt, (unhide hR).2.2.1.trans (unhide HW).2, by have := unhide HU; rw [if_neg (by omega)] at this; exact this⟩
        · have q1 : ((7 * (i : Int)) == 63) = false := by rw [beq_eq_false_iff_ne]; omega
          have q2 : (0 : Int) < 7 * (i : Int) := by omega
          have q3 : (b == 0) = false := by rw [beq_eq_false_iff_ne]; intro e; exact h2 ⟨by omega, e⟩
          clear h1 h2
          by_cases hlt : b < 128
          · go_wp2_with fail
            refine (unhide hO).mono ?_
            rintro e w' ⟨rfl, v3, hW, hF⟩
            have HW := hide (And.intro hW hF)
            clear hW hF
            go_wp2
            go_ret
            rw [← unhide HU, if_pos hlt]
            exact ⟨ret_int (or_lt i acc c hi8 hc1 (unhide hacc)), v3, (unhide HW).1, (unhide hR).2.2.1.trans (unhide HW).2⟩
          · go_wp2_with fail
            refine (unhide hO).mono ?_
            rintro e w' ⟨rfl, v3, hW, hF⟩
            have HW := hide (And.intro hW hF)
            clear hW hF
            go_wp2
            go_roundg (gk - 1)
            case measure => have := unhide hik; omega
            case rel => exact ⟨i + 1, acc + c * 128 ^ i, t, v3, by have := unhide hik; unfold Hid; omega, unhide HN, by omega, congrArg (Value.int IntKind.u64) (or_lt i acc c hi8 hc1 (unhide hacc)), by go_num, (unhide HW).1, unhide hBt, (unhide hR).2.2.1.trans (unhide HW).2, by have := unhide HU; rw [if_neg (by omega)] at this; exact this⟩


/-- The number that so many bytes are, the highest first. -/
def wnum : Nat → List Int → Nat
  | acc, [] => acc
  | acc, b :: t => wnum (acc * 256 + b.toNat) t

theorem wnum_take (acc : Nat) (l : List Int) (j : Nat) (hj : j < l.length) : wnum acc (l.take (j + 1)) = wnum acc (l.take j) * 256 + (l.getD j 0).toNat := by
  induction l generalizing acc j with
  | nil => simp at hj
  | cons b t ih =>
    cases j with
    | zero => simp [wnum]
    | succ j => simp only [List.take_succ_cons, wnum, List.getD_cons_succ]; exact ih _ j (by simpa using hj)

theorem wnum_lt (l : List Int) (acc : Nat) (hB : BOk l) : wnum acc l < (acc + 1) * 256 ^ l.length := by
  induction l generalizing acc with
  | nil => simp [wnum]
  | cons b t ih =>
    have hb := hB b (by simp)
    have h := ih (acc * 256 + b.toNat) (fun c hc => hB c (by simp [hc]))
    have h2 : (acc * 256 + b.toNat + 1) * 256 ^ t.length ≤ ((acc + 1) * 256) * 256 ^ t.length := Nat.mul_le_mul_right _ (by omega)
    rw [Nat.mul_assoc, ← Nat.pow_succ'] at h2
    simp only [wnum, List.length_cons]
    exact Nat.lt_of_lt_of_le h h2
theorem or_byte (x : Nat) (b : Int) (hx : x < 256 ^ 7) (h0 : 0 ≤ b) (h1 : b < 256) : bits .or .u64 (IntKind.u64.wrap ((x : Int) * 256)) b = ((x * 256 + b.toNat : Nat) : Int) := by
  have h2 := Nat.two_pow_add_eq_or_of_lt (i := 8) (b := b.toNat) (by omega) x
  have h3 : x * 256 < 2 ^ 64 := by have : (256 : Nat) ^ 7 = 2 ^ 56 := by decide
                                   omega
  have hb : b = ((b.toNat : Nat) : Int) := by omega
  rw [show ((x : Int) * 256) = ((x * 256 : Nat) : Int) from by omega, wrapU _ h3]
  have h4 := u64_or_nat (x * 256) b.toNat (by omega) (by omega)
  rw [← hb] at h4
  rw [h4, Nat.mul_comm x 256]
  exact congrArg _ h2.symm

set_option maxHeartbeats 1600000 in
set_option maxRecDepth 100000 in
theorem word_short (r : Nat) {rb : Nat} (v : Value) (bs : List Int) (e0 : Int) (w : World) (h : Rdr w r rb v bs e0) (hl : bs.length < 8) :
    Calls Tryz.prog 180 #[.pointer (some ⟨r, 0, none⟩)] w fun e w' => e = errPanic 2 ∧ w' = w := by
  have hT := hide (take_short r 8 v bs e0 w h (by omega))
  clear h
  go_enter Tryz.func180, Tryz.ntmps180
  go_wp2_with fail
  refine (unhide hT).mono ?_
  rintro e w' ⟨rfl, rfl⟩
  exact ⟨rfl, rfl, rfl⟩

theorem word_pre (l : List Int) (hB : ∀ i, i < 8 → 0 ≤ l.getD i 0 ∧ l.getD i 0 < 256) (hl : l.length = 8) (j : Nat) (hj : j < 8) : wnum 0 (l.take j) < 256 ^ 7 := by
  have h := wnum_lt (l.take j) 0 (fun b hb => by
    obtain ⟨i, hi, rfl⟩ := List.getElem_of_mem hb
    rw [List.length_take] at hi
    have := hB i (by omega)
    rw [List.getD_eq_getElem?_getD, List.getElem?_eq_getElem (by omega)] at this
    simpa using this)
  rw [List.length_take] at h
  have h2 : 256 ^ (min j l.length) ≤ 256 ^ 7 := Nat.pow_le_pow_right (by omega) (by omega)
  omega

set_option maxHeartbeats 1600000 in
set_option maxRecDepth 100000 in
theorem word_read (r : Nat) {rb : Nat} (v : Value) (bs : List Int) (e0 : Int) (w : World) (h : Rdr w r rb v bs e0) (hB : BOk bs) (hl : 8 ≤ bs.length) :
    Calls Tryz.prog 180 #[.pointer (some ⟨r, 0, none⟩)] w fun e w' => e = .returned (.int .u64 (wnum 0 (bs.take 8))) ∧ ∃ v2, Rdr w' r rb v2 (bs.drop 8) e0 ∧ RFr r w w' := by
  have hT := hide (take_ok r 8 v bs e0 w h hl)
  have HB := hide hB
  clear h hB
  go_enter Tryz.func180, Tryz.ntmps180
  go_wp2_with fail
  refine (unhide hT).mono ?_
  rintro e w' ⟨v1, v2, rfl, hR, _, hW, hF⟩
  rcases hR with ⟨_, hR⟩ | ⟨g, off, cap, rfl, h1, h2, h3, h4⟩
  · have : (bs.take 8).length = 0 := by rw [hR]; rfl
    rw [List.length_take] at this; omega
  have hl8 : (bs.take 8).length = 8 := by rw [List.length_take]; omega
  have hB8 : ∀ i, i < 8 → 0 ≤ (bs.take 8).getD i 0 ∧ (bs.take 8).getD i 0 < 256 := fun i hi => unhide HB _ (List.mem_of_mem_take (by
    rw [List.getD_eq_getElem?_getD, List.getElem?_eq_getElem (by omega)]; exact List.getElem_mem _))
  rw [hl8] at h1 h4 ⊢
  generalize hbs8 : bs.take 8 = l at *
  have HL := hide hl8
  have HBS := hide hbs8
  have HW := hide (And.intro hW hF)
  have H4 := hide h4
  have HB8 := hide hB8
  clear hW hF h4 hB8 hl8 hbs8 h2 h3 hT
  go_wp2
  go_loopg [3, 5, 9] 8 (fun k x _ i wr => wr = w' ∧ ∃ j : Nat, Hid (j + k = 8) ∧ i = .int .i64 (j : Int) ∧ x = .int .u64 (wnum 0 (l.take j) : Nat))
  case atStart => exact ⟨rfl, 0, rfl, rfl, rfl⟩
  case round =>
    obtain ⟨rfl, j, hj, rfl, rfl⟩ := hrel
    by_cases hlt : j < 8
    · have hc := unhide H4 j hlt
      have hb := unhide HB8 j hlt
      have hs := hide (wnum_take 0 l j (by rw [unhide HL]; exact hlt))
      have hx7 := hide (word_pre l (unhide HB8) (unhide HL) j hlt)
      generalize l.getD j 0 = b at *
      generalize wnum 0 (l.take j) = x at *
      obtain ⟨hb0, hb1⟩ := hb
      go_wp2
      go_roundg (gk - 1)
      case measure => have := unhide hj; omega
      case rel => exact ⟨rfl, j + 1, by have := unhide hj; unfold Hid; omega, by go_num, congrArg (Value.int IntKind.u64) (by rw [unhide hs]; exact or_byte x b (unhide hx7) hb0 hb1)⟩
    · obtain rfl : j = 8 := by have := unhide hj; omega
      have hl9 : l.take 8 = l := List.take_of_length_le (by rw [unhide HL]; omega)
      rw [hl9]
      clear hl9
      go_wp2
      go_ret
      rw [unhide HBS]
      exact ⟨rfl, v2, (unhide HW).1, (unhide HW).2⟩

theorem xor_i64_zero (n : Nat) (h : n < 2 ^ 63) : bits .xor .i64 (n : Int) 0 = (n : Int) := by
  have e : bits .xor .i64 (n : Int) 0 = IntKind.i64.wrap ((BitVec.ofInt 64 (n : Int) ^^^ BitVec.ofInt 64 0).toNat : Int) := rfl
  rw [e, BitVec.ofInt_natCast, show BitVec.ofInt 64 0 = 0#64 from rfl, BitVec.xor_zero, BitVec.toNat_ofNat, IntKind.wrap_i64]
  omega
theorem xor_i64_ones (n : Nat) (h : n < 2 ^ 63) : bits .xor .i64 (n : Int) (-1) = -(n : Int) - 1 := by
  have e : bits .xor .i64 (n : Int) (-1) = IntKind.i64.wrap ((BitVec.ofInt 64 (n : Int) ^^^ BitVec.ofInt 64 (-1)).toNat : Int) := rfl
  rw [e, BitVec.ofInt_natCast, show BitVec.ofInt 64 (-1) = BitVec.allOnes 64 from by decide, BitVec.xor_allOnes, BitVec.toNat_not, BitVec.toNat_ofNat, IntKind.wrap_i64]
  omega

/-- The number with a sign that a number stands for. -/
def unfoldI (x : Nat) : Int := if x % 2 = 0 then ((x / 2 : Nat) : Int) else -((x / 2 : Nat) : Int) - 1

set_option maxHeartbeats 400000 in
set_option maxRecDepth 100000 in
theorem unfold_any (x : Nat) (w : World) (hx : x < 2 ^ 64) :
    Calls Tryz.prog 200 #[.int .u64 x] w fun e w' => e = .returned (.int .i64 (unfoldI x)) ∧ w' = w := by
  have hand : bits BinOp.and IntKind.u64 (x : Int) 1 = ((x % 2 : Nat) : Int) := by
    have h := u64_and_nat x 1 (by omega) (by omega)
    rw [Nat.and_one_is_mod] at h
    exact h
  have hlt : x % 2 < 2 := Nat.mod_lt _ (by omega)
  rcases Nat.mod_two_eq_zero_or_one x with h2 | h2
  · rw [h2] at hand
    go_enter Tryz.func200, Tryz.ntmps200
    go_wp2
    go_ret
    exact ⟨ret_int (by rw [show ((x : Int) / 2) = ((x / 2 : Nat) : Int) from by omega, xor_i64_zero _ (by omega), unfoldI, if_pos h2]), rfl⟩
  · rw [h2] at hand
    go_enter Tryz.func200, Tryz.ntmps200
    go_wp2
    go_ret
    exact ⟨ret_int (by rw [show ((x : Int) / 2) = ((x / 2 : Nat) : Int) from by omega, xor_i64_ones _ (by omega), unfoldI, if_neg (by omega)]), rfl⟩

/-- A number that is not above most (which counts as 0 where it is below). -/
def unumMost (most : Int) (bs : List Int) : Except Int (Nat × List Int) :=
  match unum 0 0 bs with
  | .ok (x, t) => if max most 0 < (x : Int) then .error 5 else .ok (x, t)
  | .error k => .error k

theorem unum_lt (i acc : Nat) (bs : List Int) (x : Nat) (t : List Int) (hi : i ≤ 9) (ha : acc < 128 ^ i) (hB : BOk bs) (h : unum i acc bs = .ok (x, t)) : x < 2 ^ 64 ∧ BOk t := by
  induction bs generalizing i acc with
  | nil => simp [unum] at h
  | cons b l ih =>
    have hb := hB b (by simp)
    rw [unum_cons] at h
    split at h
    · cases h
    · rename_i hn
      have hBl : BOk l := fun c hc => hB c (by simp [hc])
      split at h
      · cases h
        refine ⟨?_, hBl⟩
        by_cases h9 : i = 9
        · subst h9
          have : b = 1 := by
            rcases Int.decEq b 1 with h | h
            · exact (hn (.inl ⟨rfl, h⟩)).elim
            · exact h
          subst this
          have : (128 : Nat) ^ 9 = 2 ^ 63 := by decide
          simp only [Int.toNat_one, Nat.reduceMod, Nat.one_mul]
          omega
        · have h1 := acc_next (c := b.toNat % 128) (Nat.mod_lt _ (by omega)) ha
          have h2 := pow9 (i := i + 1) (by omega)
          omega
      · by_cases h9 : i = 9
        · subst h9
          exact (hn (.inl ⟨rfl, by omega⟩)).elim
        · exact ih (i + 1) _ (by omega) (acc_next (Nat.mod_lt _ (by omega)) ha) hBl h

set_option maxHeartbeats 400000 in
set_option maxRecDepth 100000 in
theorem atMost_any (r : Nat) {rb : Nat} (v : Value) (bs : List Int) (e0 most : Int) (w : World) (h : Rdr w r rb v bs e0) (hB : BOk bs) (hm : most ≤ 9223372036854775807) :
    Calls Tryz.prog 176 #[.pointer (some ⟨r, 0, none⟩), .int .i64 most] w fun e w' => Came r rb w e0 (fun x => .int .i64 x) (unumMost most bs) e w' := by
  have hN := hide (number_any r v bs e0 w h hB)
  unfold unumMost
  rcases hu : unum 0 0 bs with k | ⟨x, t⟩
  · rw [hu] at hN
    clear h
    go_enter Tryz.func176, Tryz.ntmps176
    go_wp2_with fail
    refine (unhide hN).mono ?_
    rintro e w' ⟨rfl, hh⟩
    exact ⟨rfl, rfl, hh⟩
  · rw [hu] at hN
    have hx := (unum_lt 0 0 bs x t (by omega) (by simp) hB hu).1
    clear h hB hu
    by_cases hc : max most 0 < (x : Int)
    · simp only [if_pos hc]
      go_enter Tryz.func176, Tryz.ntmps176
      go_wp2_with fail
      refine (unhide hN).mono ?_
      rintro e w' ⟨rfl, v2, hW, hF⟩
      have HH := hide (And.intro hW hF)
      clear hW hF
      go_wp2
      exact ⟨rfl, rfl, v2, t, (unhide HH).1, (unhide HH).2⟩
    · simp only [if_neg hc]
      go_enter Tryz.func176, Tryz.ntmps176
      go_wp2_with fail
      refine (unhide hN).mono ?_
      rintro e w' ⟨rfl, v2, hW, hF⟩
      have HH := hide (And.intro hW hF)
      clear hW hF
      go_wp2
      go_ret
      exact ⟨rfl, v2, (unhide HH).1, (unhide HH).2⟩


theorem catch_idleU (p q : Addr) (w : World) :
    CallsD Tryz.prog 205 #[.pointer (some p), .pointer (some q)] .returning w fun e u' w' => e = .returned (.tuple #[]) ∧ u' = .returning ∧ w' = w := by
  refine callsD_of_wpS Tryz.func205 rfl fun c₀ cs hu => ?_
  apply wpS_seq
  apply wpS_region
  simp [wpOpsS, go_sem, recoverD, hu, Tryz.ntmps205, Exit.thenS, ta_nil]
  apply wpS_seq
  apply wpS_region
  simp [wpOpsS, go_sem, Exit.thenS]
  refine wpS_cond (t := false) (by simp [Act.eval, Array.replicate]) ?_
  simp only [Bool.false_eq_true, if_false]
  refine wpS_of_wp (wp_skip ?_)
  cases c₀
  simp_all [bodyPostS, results, Tryz.results205]

set_option maxHeartbeats 400000 in
set_option maxRecDepth 100000 in
theorem catch_panickingU (r : Nat) (p q : Addr) (u0 : Value) (a0 : Option Addr) (l0 c0 : Nat) (x0 k : Int) (w : World) (hp : w.cell? p = some (.slice a0 l0 c0)) (hq : w.cell? q = some (.pointer (some ⟨r, 0, none⟩)))
    (h0 : w.cell? ⟨r, 0, none⟩ = some u0) (h1 : w.cell? ⟨r, 1, none⟩ = some (.int .i64 x0)) (f0 : w.frozen? ⟨r, 0, none⟩ = false) (f1 : w.frozen? ⟨r, 1, none⟩ = false) :
    CallsD Tryz.prog 205 #[.pointer (some p), .pointer (some q)] (.panicking [{ v := .iface 33 (.int .i64 k), recovered := false }]) w fun e u' w' =>
      e = .returned (.tuple #[]) ∧ u' = .panicking [{ v := .iface 33 (.int .i64 k), recovered := true }] ∧ w' = (w.setCell ⟨r, 0, none⟩ (.slice a0 l0 c0)).setCell ⟨r, 1, none⟩ (.int .i64 k) := by
  refine callsD_of_wpS Tryz.func205 rfl fun c₀ cs hu => ?_
  apply wpS_seq
  apply wpS_region
  simp [wpOpsS, go_sem, recoverD, hu, Tryz.ntmps205, Exit.thenS, ta_err]
  apply wpS_seq
  apply wpS_region
  simp [wpOpsS, go_sem, Exit.thenS]
  refine wpS_cond (t := true) (by simp [Act.eval, Array.replicate]) ?_
  simp only [if_true]
  simp [Array.replicate]
  refine wpS_of_wp ?_
  go_wp2
  exact ⟨rfl, _, rfl, _, by simp [results, Tryz.results205], rfl, rfl, rfl⟩

set_option maxHeartbeats 800000 in
set_option maxRecDepth 100000 in
theorem readU_ok (r : Nat) {rb : Nat} (v : Value) (bs bs' : List Int) (F : Nat) (first cap : Array Value) (val : Value) (w : World) (h : Rdr w r rb v bs 0) (hF : ∀ args w, (callFunc F args).run Tryz.prog w = .ok (.enter F args) w)
    (hp : ∀ w1, RFr r w w1 → Rdr w1 r rb v bs 0 → Calls Tryz.prog F (first ++ cap) w1 fun e w' => e = .returned val ∧ ∃ v2, Rdr w' r rb v2 bs' 0 ∧ RFr r w1 w') :
    Calls Tryz.prog 179 #[.pointer (some ⟨r, 0, none⟩), .func (Fn.func F) first cap] w fun e w' => e = .returned val ∧ ∃ v2, Rdr w' r rb v2 bs' 0 ∧ RFr r w w' := by
  have hmf : ∀ (fn : Fn) (first cap : Array Value) (w : World), (Instr.makeFunc fn first cap).run Tryz.prog w = .ok (.func fn first cap) w := fun _ _ _ _ => rfl
  have c0 := h.c0
  have c1 := h.c1
  have hr := h.lt
  have HP := hide hp
  have H := hide h
  obtain ⟨a0, cap0, rfl⟩ := h.shape
  clear h hp
  go_enter_defers Tryz.func179, Tryz.ntmps179
  go_wp2_with fail
  refine (unhide HP _ (RFr.alloc2 _ _ _ _) (((unhide H).alloc _).alloc _)).mono ?_
  rintro e w' ⟨rfl, v2, hW, hR⟩
  have HH := hide (And.intro hW hR)
  clear hW hR
  go_wp2
  refine leaves_cons (f := 205) (args := #[.pointer (some ⟨w.heap.size + 1, 0, none⟩), .pointer (some ⟨w.heap.size, 0, none⟩)]) (by simp) (by simp [go_sem]) ?_
  refine (catch_idleU _ _ _).mono ?_
  rintro e u' w'' ⟨rfl, rfl, rfl⟩
  exact ⟨_, results_tmp rfl _ _ _, rfl, v2, (unhide HH).1, (RFr.alloc2 _ _ _ _).trans (unhide HH).2⟩

set_option maxHeartbeats 800000 in
set_option maxRecDepth 100000 in
theorem readU_fail (r : Nat) {rb : Nat} (v : Value) (bs : List Int) (F : Nat) (first cap : Array Value) (k : Int) (w : World) (h : Rdr w r rb v bs 0) (hF : ∀ args w, (callFunc F args).run Tryz.prog w = .ok (.enter F args) w)
    (hp : ∀ w1, RFr r w w1 → Rdr w1 r rb v bs 0 → Calls Tryz.prog F (first ++ cap) w1 fun e w' => e = errPanic k ∧ ∃ v2 bs2, Rdr w' r rb v2 bs2 0 ∧ RFr r w1 w') :
    Calls Tryz.prog 179 #[.pointer (some ⟨r, 0, none⟩), .func (Fn.func F) first cap] w fun e w' => e = .returned (.int .u64 0) ∧ Rdr w' r rb v bs k ∧ RFr r w w' := by
  have hmf : ∀ (fn : Fn) (first cap : Array Value) (w : World), (Instr.makeFunc fn first cap).run Tryz.prog w = .ok (.func fn first cap) w := fun _ _ _ _ => rfl
  have c0 := h.c0
  have c1 := h.c1
  have hr := h.lt
  have HP := hide hp
  have H := hide h
  obtain ⟨a0, cap0, rfl⟩ := h.shape
  clear h hp
  go_enter_defers Tryz.func179, Tryz.ntmps179
  go_wp2_with fail
  refine (unhide HP _ (RFr.alloc2 _ _ _ _) (((unhide H).alloc _).alloc _)).mono ?_
  rintro e w' ⟨rfl, v2, bs2, hW, hR⟩
  have HH := hide (And.intro hW hR)
  clear hW hR
  refine leaves_cons (f := 205) (args := #[.pointer (some ⟨w.heap.size + 1, 0, none⟩), .pointer (some ⟨w.heap.size, 0, none⟩)]) (by simp) (by simp [go_sem]) ?_
  refine (catch_panickingU r ⟨w.heap.size + 1, 0, none⟩ ⟨w.heap.size, 0, none⟩ v2 a0 bs.length cap0 0 k w' ?_ ?_ (unhide HH).1.c0 (unhide HH).1.c1 (unhide HH).1.f0 (unhide HH).1.f1).mono ?_
  · rw [(unhide HH).2.cell (a := ⟨w.heap.size + 1, 0, none⟩) (by simp) (by simp; omega)]; simp
  · rw [(unhide HH).2.cell (a := ⟨w.heap.size, 0, none⟩) (by simp; omega) (by simp; omega)]; simp
  rintro e u' w'' ⟨rfl, rfl, rfl⟩
  have hback := (unhide HH).1.back (unhide H) ((RFr.alloc2 _ _ _ _).trans (unhide HH).2) k
  exact ⟨_, results_tmp rfl _ _ _, rfl, hback.1, hback.2⟩

set_option maxHeartbeats 800000 in
set_option maxRecDepth 100000 in
theorem readU_err (r : Nat) {rb : Nat} (v : Value) (bs : List Int) (e0 : Int) (fv : Value) (w : World) (h : Rdr w r rb v bs e0) (he : e0 ≠ 0) :
    Calls Tryz.prog 179 #[.pointer (some ⟨r, 0, none⟩), fv] w fun e w' => e = .returned (.int .u64 0) ∧ Rdr w' r rb v bs e0 ∧ RFr r w w' := by
  have c1 := h.c1
  have hr := h.lt
  have H := hide h
  have he' : (e0 != 0) = true := by rw [bne_iff_ne]; exact he
  clear h he
  go_enter_defers Tryz.func179, Tryz.ntmps179
  go_wp2
  exact ⟨_, results_tmp rfl _ _ _, rfl, (unhide H).alloc _, (Fr.refl _ _).alloc _⟩


theorem catch_idleI (p q : Addr) (w : World) :
    CallsD Tryz.prog 209 #[.pointer (some p), .pointer (some q)] .returning w fun e u' w' => e = .returned (.tuple #[]) ∧ u' = .returning ∧ w' = w := by
  refine callsD_of_wpS Tryz.func209 rfl fun c₀ cs hu => ?_
  apply wpS_seq
  apply wpS_region
  simp [wpOpsS, go_sem, recoverD, hu, Tryz.ntmps209, Exit.thenS, ta_nil]
  apply wpS_seq
  apply wpS_region
  simp [wpOpsS, go_sem, Exit.thenS]
  refine wpS_cond (t := false) (by simp [Act.eval, Array.replicate]) ?_
  simp only [Bool.false_eq_true, if_false]
  refine wpS_of_wp (wp_skip ?_)
  cases c₀
  simp_all [bodyPostS, results, Tryz.results209]

set_option maxHeartbeats 400000 in
set_option maxRecDepth 100000 in
theorem catch_panickingI (r : Nat) (p q : Addr) (u0 : Value) (a0 : Option Addr) (l0 c0 : Nat) (x0 k : Int) (w : World) (hp : w.cell? p = some (.slice a0 l0 c0)) (hq : w.cell? q = some (.pointer (some ⟨r, 0, none⟩)))
    (h0 : w.cell? ⟨r, 0, none⟩ = some u0) (h1 : w.cell? ⟨r, 1, none⟩ = some (.int .i64 x0)) (f0 : w.frozen? ⟨r, 0, none⟩ = false) (f1 : w.frozen? ⟨r, 1, none⟩ = false) :
    CallsD Tryz.prog 209 #[.pointer (some p), .pointer (some q)] (.panicking [{ v := .iface 33 (.int .i64 k), recovered := false }]) w fun e u' w' =>
      e = .returned (.tuple #[]) ∧ u' = .panicking [{ v := .iface 33 (.int .i64 k), recovered := true }] ∧ w' = (w.setCell ⟨r, 0, none⟩ (.slice a0 l0 c0)).setCell ⟨r, 1, none⟩ (.int .i64 k) := by
  refine callsD_of_wpS Tryz.func209 rfl fun c₀ cs hu => ?_
  apply wpS_seq
  apply wpS_region
  simp [wpOpsS, go_sem, recoverD, hu, Tryz.ntmps209, Exit.thenS, ta_err]
  apply wpS_seq
  apply wpS_region
  simp [wpOpsS, go_sem, Exit.thenS]
  refine wpS_cond (t := true) (by simp [Act.eval, Array.replicate]) ?_
  simp only [if_true]
  simp [Array.replicate]
  refine wpS_of_wp ?_
  go_wp2
  exact ⟨rfl, _, rfl, _, by simp [results, Tryz.results209], rfl, rfl, rfl⟩

set_option maxHeartbeats 800000 in
set_option maxRecDepth 100000 in
theorem readI_ok (r : Nat) {rb : Nat} (v : Value) (bs bs' : List Int) (F : Nat) (first cap : Array Value) (val : Value) (w : World) (h : Rdr w r rb v bs 0) (hF : ∀ args w, (callFunc F args).run Tryz.prog w = .ok (.enter F args) w)
    (hp : ∀ w1, RFr r w w1 → Rdr w1 r rb v bs 0 → Calls Tryz.prog F (first ++ cap) w1 fun e w' => e = .returned val ∧ ∃ v2, Rdr w' r rb v2 bs' 0 ∧ RFr r w1 w') :
    Calls Tryz.prog 198 #[.pointer (some ⟨r, 0, none⟩), .func (Fn.func F) first cap] w fun e w' => e = .returned val ∧ ∃ v2, Rdr w' r rb v2 bs' 0 ∧ RFr r w w' := by
  have hmf : ∀ (fn : Fn) (first cap : Array Value) (w : World), (Instr.makeFunc fn first cap).run Tryz.prog w = .ok (.func fn first cap) w := fun _ _ _ _ => rfl
  have c0 := h.c0
  have c1 := h.c1
  have hr := h.lt
  have HP := hide hp
  have H := hide h
  obtain ⟨a0, cap0, rfl⟩ := h.shape
  clear h hp
  go_enter_defers Tryz.func198, Tryz.ntmps198
  go_wp2_with fail
  refine (unhide HP _ (RFr.alloc2 _ _ _ _) (((unhide H).alloc _).alloc _)).mono ?_
  rintro e w' ⟨rfl, v2, hW, hR⟩
  have HH := hide (And.intro hW hR)
  clear hW hR
  go_wp2
  refine leaves_cons (f := 209) (args := #[.pointer (some ⟨w.heap.size + 1, 0, none⟩), .pointer (some ⟨w.heap.size, 0, none⟩)]) (by simp) (by simp [go_sem]) ?_
  refine (catch_idleI _ _ _).mono ?_
  rintro e u' w'' ⟨rfl, rfl, rfl⟩
  exact ⟨_, results_tmp rfl _ _ _, rfl, v2, (unhide HH).1, (RFr.alloc2 _ _ _ _).trans (unhide HH).2⟩

set_option maxHeartbeats 800000 in
set_option maxRecDepth 100000 in
theorem readI_fail (r : Nat) {rb : Nat} (v : Value) (bs : List Int) (F : Nat) (first cap : Array Value) (k : Int) (w : World) (h : Rdr w r rb v bs 0) (hF : ∀ args w, (callFunc F args).run Tryz.prog w = .ok (.enter F args) w)
    (hp : ∀ w1, RFr r w w1 → Rdr w1 r rb v bs 0 → Calls Tryz.prog F (first ++ cap) w1 fun e w' => e = errPanic k ∧ ∃ v2 bs2, Rdr w' r rb v2 bs2 0 ∧ RFr r w1 w') :
    Calls Tryz.prog 198 #[.pointer (some ⟨r, 0, none⟩), .func (Fn.func F) first cap] w fun e w' => e = .returned (.int .i64 0) ∧ Rdr w' r rb v bs k ∧ RFr r w w' := by
  have hmf : ∀ (fn : Fn) (first cap : Array Value) (w : World), (Instr.makeFunc fn first cap).run Tryz.prog w = .ok (.func fn first cap) w := fun _ _ _ _ => rfl
  have c0 := h.c0
  have c1 := h.c1
  have hr := h.lt
  have HP := hide hp
  have H := hide h
  obtain ⟨a0, cap0, rfl⟩ := h.shape
  clear h hp
  go_enter_defers Tryz.func198, Tryz.ntmps198
  go_wp2_with fail
  refine (unhide HP _ (RFr.alloc2 _ _ _ _) (((unhide H).alloc _).alloc _)).mono ?_
  rintro e w' ⟨rfl, v2, bs2, hW, hR⟩
  have HH := hide (And.intro hW hR)
  clear hW hR
  refine leaves_cons (f := 209) (args := #[.pointer (some ⟨w.heap.size + 1, 0, none⟩), .pointer (some ⟨w.heap.size, 0, none⟩)]) (by simp) (by simp [go_sem]) ?_
  refine (catch_panickingI r ⟨w.heap.size + 1, 0, none⟩ ⟨w.heap.size, 0, none⟩ v2 a0 bs.length cap0 0 k w' ?_ ?_ (unhide HH).1.c0 (unhide HH).1.c1 (unhide HH).1.f0 (unhide HH).1.f1).mono ?_
  · rw [(unhide HH).2.cell (a := ⟨w.heap.size + 1, 0, none⟩) (by simp) (by simp; omega)]; simp
  · rw [(unhide HH).2.cell (a := ⟨w.heap.size, 0, none⟩) (by simp; omega) (by simp; omega)]; simp
  rintro e u' w'' ⟨rfl, rfl, rfl⟩
  have hback := (unhide HH).1.back (unhide H) ((RFr.alloc2 _ _ _ _).trans (unhide HH).2) k
  exact ⟨_, results_tmp rfl _ _ _, rfl, hback.1, hback.2⟩

set_option maxHeartbeats 800000 in
set_option maxRecDepth 100000 in
theorem readI_err (r : Nat) {rb : Nat} (v : Value) (bs : List Int) (e0 : Int) (fv : Value) (w : World) (h : Rdr w r rb v bs e0) (he : e0 ≠ 0) :
    Calls Tryz.prog 198 #[.pointer (some ⟨r, 0, none⟩), fv] w fun e w' => e = .returned (.int .i64 0) ∧ Rdr w' r rb v bs e0 ∧ RFr r w w' := by
  have c1 := h.c1
  have hr := h.lt
  have H := hide h
  have he' : (e0 != 0) = true := by rw [bne_iff_ne]; exact he
  clear h he
  go_enter_defers Tryz.func198, Tryz.ntmps198
  go_wp2
  exact ⟨_, results_tmp rfl _ _ _, rfl, (unhide H).alloc _, (Fr.refl _ _).alloc _⟩


theorem catch_idleN (p q : Addr) (w : World) :
    CallsD Tryz.prog 203 #[.pointer (some p), .pointer (some q)] .returning w fun e u' w' => e = .returned (.tuple #[]) ∧ u' = .returning ∧ w' = w := by
  refine callsD_of_wpS Tryz.func203 rfl fun c₀ cs hu => ?_
  apply wpS_seq
  apply wpS_region
  simp [wpOpsS, go_sem, recoverD, hu, Tryz.ntmps203, Exit.thenS, ta_nil]
  apply wpS_seq
  apply wpS_region
  simp [wpOpsS, go_sem, Exit.thenS]
  refine wpS_cond (t := false) (by simp [Act.eval, Array.replicate]) ?_
  simp only [Bool.false_eq_true, if_false]
  refine wpS_of_wp (wp_skip ?_)
  cases c₀
  simp_all [bodyPostS, results, Tryz.results203]

set_option maxHeartbeats 400000 in
set_option maxRecDepth 100000 in
theorem catch_panickingN (r : Nat) (p q : Addr) (u0 : Value) (a0 : Option Addr) (l0 c0 : Nat) (x0 k : Int) (w : World) (hp : w.cell? p = some (.slice a0 l0 c0)) (hq : w.cell? q = some (.pointer (some ⟨r, 0, none⟩)))
    (h0 : w.cell? ⟨r, 0, none⟩ = some u0) (h1 : w.cell? ⟨r, 1, none⟩ = some (.int .i64 x0)) (f0 : w.frozen? ⟨r, 0, none⟩ = false) (f1 : w.frozen? ⟨r, 1, none⟩ = false) :
    CallsD Tryz.prog 203 #[.pointer (some p), .pointer (some q)] (.panicking [{ v := .iface 33 (.int .i64 k), recovered := false }]) w fun e u' w' =>
      e = .returned (.tuple #[]) ∧ u' = .panicking [{ v := .iface 33 (.int .i64 k), recovered := true }] ∧ w' = (w.setCell ⟨r, 0, none⟩ (.slice a0 l0 c0)).setCell ⟨r, 1, none⟩ (.int .i64 k) := by
  refine callsD_of_wpS Tryz.func203 rfl fun c₀ cs hu => ?_
  apply wpS_seq
  apply wpS_region
  simp [wpOpsS, go_sem, recoverD, hu, Tryz.ntmps203, Exit.thenS, ta_err]
  apply wpS_seq
  apply wpS_region
  simp [wpOpsS, go_sem, Exit.thenS]
  refine wpS_cond (t := true) (by simp [Act.eval, Array.replicate]) ?_
  simp only [if_true]
  simp [Array.replicate]
  refine wpS_of_wp ?_
  go_wp2
  exact ⟨rfl, _, rfl, _, by simp [results, Tryz.results203], rfl, rfl, rfl⟩

set_option maxHeartbeats 800000 in
set_option maxRecDepth 100000 in
theorem readN_ok (r : Nat) {rb : Nat} (v : Value) (bs bs' : List Int) (F : Nat) (first cap : Array Value) (val : Value) (w : World) (h : Rdr w r rb v bs 0) (hF : ∀ args w, (callFunc F args).run Tryz.prog w = .ok (.enter F args) w)
    (hp : ∀ w1, RFr r w w1 → Rdr w1 r rb v bs 0 → Calls Tryz.prog F (first ++ cap) w1 fun e w' => e = .returned val ∧ ∃ v2, Rdr w' r rb v2 bs' 0 ∧ RFr r w1 w') :
    Calls Tryz.prog 174 #[.pointer (some ⟨r, 0, none⟩), .func (Fn.func F) first cap] w fun e w' => e = .returned val ∧ ∃ v2, Rdr w' r rb v2 bs' 0 ∧ RFr r w w' := by
  have hmf : ∀ (fn : Fn) (first cap : Array Value) (w : World), (Instr.makeFunc fn first cap).run Tryz.prog w = .ok (.func fn first cap) w := fun _ _ _ _ => rfl
  have c0 := h.c0
  have c1 := h.c1
  have hr := h.lt
  have HP := hide hp
  have H := hide h
  obtain ⟨a0, cap0, rfl⟩ := h.shape
  clear h hp
  go_enter_defers Tryz.func174, Tryz.ntmps174
  go_wp2_with fail
  refine (unhide HP _ (RFr.alloc2 _ _ _ _) (((unhide H).alloc _).alloc _)).mono ?_
  rintro e w' ⟨rfl, v2, hW, hR⟩
  have HH := hide (And.intro hW hR)
  clear hW hR
  go_wp2
  refine leaves_cons (f := 203) (args := #[.pointer (some ⟨w.heap.size + 1, 0, none⟩), .pointer (some ⟨w.heap.size, 0, none⟩)]) (by simp) (by simp [go_sem]) ?_
  refine (catch_idleN _ _ _).mono ?_
  rintro e u' w'' ⟨rfl, rfl, rfl⟩
  exact ⟨_, results_tmp rfl _ _ _, rfl, v2, (unhide HH).1, (RFr.alloc2 _ _ _ _).trans (unhide HH).2⟩

set_option maxHeartbeats 800000 in
set_option maxRecDepth 100000 in
theorem readN_fail (r : Nat) {rb : Nat} (v : Value) (bs : List Int) (F : Nat) (first cap : Array Value) (k : Int) (w : World) (h : Rdr w r rb v bs 0) (hF : ∀ args w, (callFunc F args).run Tryz.prog w = .ok (.enter F args) w)
    (hp : ∀ w1, RFr r w w1 → Rdr w1 r rb v bs 0 → Calls Tryz.prog F (first ++ cap) w1 fun e w' => e = errPanic k ∧ ∃ v2 bs2, Rdr w' r rb v2 bs2 0 ∧ RFr r w1 w') :
    Calls Tryz.prog 174 #[.pointer (some ⟨r, 0, none⟩), .func (Fn.func F) first cap] w fun e w' => e = .returned (.int .i64 0) ∧ Rdr w' r rb v bs k ∧ RFr r w w' := by
  have hmf : ∀ (fn : Fn) (first cap : Array Value) (w : World), (Instr.makeFunc fn first cap).run Tryz.prog w = .ok (.func fn first cap) w := fun _ _ _ _ => rfl
  have c0 := h.c0
  have c1 := h.c1
  have hr := h.lt
  have HP := hide hp
  have H := hide h
  obtain ⟨a0, cap0, rfl⟩ := h.shape
  clear h hp
  go_enter_defers Tryz.func174, Tryz.ntmps174
  go_wp2_with fail
  refine (unhide HP _ (RFr.alloc2 _ _ _ _) (((unhide H).alloc _).alloc _)).mono ?_
  rintro e w' ⟨rfl, v2, bs2, hW, hR⟩
  have HH := hide (And.intro hW hR)
  clear hW hR
  refine leaves_cons (f := 203) (args := #[.pointer (some ⟨w.heap.size + 1, 0, none⟩), .pointer (some ⟨w.heap.size, 0, none⟩)]) (by simp) (by simp [go_sem]) ?_
  refine (catch_panickingN r ⟨w.heap.size + 1, 0, none⟩ ⟨w.heap.size, 0, none⟩ v2 a0 bs.length cap0 0 k w' ?_ ?_ (unhide HH).1.c0 (unhide HH).1.c1 (unhide HH).1.f0 (unhide HH).1.f1).mono ?_
  · rw [(unhide HH).2.cell (a := ⟨w.heap.size + 1, 0, none⟩) (by simp) (by simp; omega)]; simp
  · rw [(unhide HH).2.cell (a := ⟨w.heap.size, 0, none⟩) (by simp; omega) (by simp; omega)]; simp
  rintro e u' w'' ⟨rfl, rfl, rfl⟩
  have hback := (unhide HH).1.back (unhide H) ((RFr.alloc2 _ _ _ _).trans (unhide HH).2) k
  exact ⟨_, results_tmp rfl _ _ _, rfl, hback.1, hback.2⟩

set_option maxHeartbeats 800000 in
set_option maxRecDepth 100000 in
theorem readN_err (r : Nat) {rb : Nat} (v : Value) (bs : List Int) (e0 : Int) (fv : Value) (w : World) (h : Rdr w r rb v bs e0) (he : e0 ≠ 0) :
    Calls Tryz.prog 174 #[.pointer (some ⟨r, 0, none⟩), fv] w fun e w' => e = .returned (.int .i64 0) ∧ Rdr w' r rb v bs e0 ∧ RFr r w w' := by
  have c1 := h.c1
  have hr := h.lt
  have H := hide h
  have he' : (e0 != 0) = true := by rw [bne_iff_ne]; exact he
  clear h he
  go_enter_defers Tryz.func174, Tryz.ntmps174
  go_wp2
  exact ⟨_, results_tmp rfl _ _ _, rfl, (unhide H).alloc _, (Fr.refl _ _).alloc _⟩


/-- What a call of a reader answers and leaves: behind an error the zero value, and nothing is read; else what o says. -/
def rres (zero : Value) (o : Except Int (Value × List Int)) (bs : List Int) (e0 : Int) : Value × List Int × Int :=
  if e0 = 0 then (match o with | .ok (u, t) => (u, t, 0) | .error k => (zero, bs, k)) else (zero, bs, e0)
def RPost (r rb : Nat) (w : World) (p : Value × List Int × Int) (e : Ending) (w' : World) : Prop := e = .returned p.1 ∧ ∃ v2, Rdr w' r rb v2 p.2.1 p.2.2 ∧ RFr r w w'

/-- The next byte. -/
def gByte : List Int → Except Int (Value × List Int)
  | [] => .error 2
  | b :: t => .ok (.int .u8 b, t)
def gNum (f : Nat → Value) (o : Except Int (Nat × List Int)) : Except Int (Value × List Int) :=
  match o with
  | .ok (x, t) => .ok (f x, t)
  | .error k => .error k
def gWord (bs : List Int) : Except Int (Value × List Int) := if bs.length < 8 then .error 2 else .ok (.int .u64 (wnum 0 (bs.take 8)), bs.drop 8)

/-- What a part comes to. -/
def PPost (r rb : Nat) (w : World) (o : Except Int (Value × List Int)) (e : Ending) (w' : World) : Prop :=
  match o with
  | .ok (u, t) => e = .returned u ∧ ∃ v2, Rdr w' r rb v2 t 0 ∧ RFr r w w'
  | .error k => e = errPanic k ∧ ∃ v2 bs2, Rdr w' r rb v2 bs2 0 ∧ RFr r w w'

theorem PPost.of_came {r rb : Nat} {w w' : World} {f : Nat → Value} {o : Except Int (Nat × List Int)} {e : Ending} (h : Came r rb w 0 f o e w') : PPost r rb w (gNum f o) e w' := by
  rcases o with k | ⟨x, t⟩
  · exact h
  · exact h

theorem enters47 (args : Array Value) (w : World) : (callFunc 201 args).run Tryz.prog w = .ok (.enter 201 args) w := by kernel_rfl
theorem enters52 (args : Array Value) (w : World) : (callFunc 180 args).run Tryz.prog w = .ok (.enter 180 args) w := by kernel_rfl
theorem enters50 (args : Array Value) (w : World) : (callFunc 199 args).run Tryz.prog w = .ok (.enter 199 args) w := by kernel_rfl
theorem enters75 (args : Array Value) (w : World) : (callFunc 175 args).run Tryz.prog w = .ok (.enter 175 args) w := by kernel_rfl

theorem read8_meth (r : Nat) {rb : Nat} (v : Value) (bs : List Int) (e0 : Int) (F : Nat) (first cap : Array Value) (o : Except Int (Value × List Int)) (w : World) (h : Rdr w r rb v bs e0) (hF : ∀ args w, (callFunc F args).run Tryz.prog w = .ok (.enter F args) w)
    (hp : ∀ w1, RFr r w w1 → Rdr w1 r rb v bs 0 → Calls Tryz.prog F (first ++ cap) w1 fun e w' => PPost r rb w1 o e w') :
    Calls Tryz.prog 177 #[.pointer (some ⟨r, 0, none⟩), .func (Fn.func F) first cap] w fun e w' => RPost r rb w (rres (.int .u8 0) o bs e0) e w' := by
  by_cases he : e0 = 0
  · subst he
    unfold rres
    rw [if_pos rfl]
    rcases o with k | ⟨u, t⟩
    · exact (read8_fail r v bs F first cap k w h hF hp).mono fun e w' ⟨h1, h2, h3⟩ => ⟨h1, v, h2, h3⟩
    · exact (read8_ok r v bs t F first cap u w h hF hp).mono fun e w' ⟨h1, v2, h2, h3⟩ => ⟨h1, v2, h2, h3⟩
  · unfold rres
    rw [if_neg he]
    exact (read8_err r v bs e0 _ w h he).mono fun e w' ⟨h1, h2, h3⟩ => ⟨h1, v, h2, h3⟩

theorem readU_meth (r : Nat) {rb : Nat} (v : Value) (bs : List Int) (e0 : Int) (F : Nat) (first cap : Array Value) (o : Except Int (Value × List Int)) (w : World) (h : Rdr w r rb v bs e0) (hF : ∀ args w, (callFunc F args).run Tryz.prog w = .ok (.enter F args) w)
    (hp : ∀ w1, RFr r w w1 → Rdr w1 r rb v bs 0 → Calls Tryz.prog F (first ++ cap) w1 fun e w' => PPost r rb w1 o e w') :
    Calls Tryz.prog 179 #[.pointer (some ⟨r, 0, none⟩), .func (Fn.func F) first cap] w fun e w' => RPost r rb w (rres (.int .u64 0) o bs e0) e w' := by
  by_cases he : e0 = 0
  · subst he
    unfold rres
    rw [if_pos rfl]
    rcases o with k | ⟨u, t⟩
    · exact (readU_fail r v bs F first cap k w h hF hp).mono fun e w' ⟨h1, h2, h3⟩ => ⟨h1, v, h2, h3⟩
    · exact (readU_ok r v bs t F first cap u w h hF hp).mono fun e w' ⟨h1, v2, h2, h3⟩ => ⟨h1, v2, h2, h3⟩
  · unfold rres
    rw [if_neg he]
    exact (readU_err r v bs e0 _ w h he).mono fun e w' ⟨h1, h2, h3⟩ => ⟨h1, v, h2, h3⟩

theorem readI_meth (r : Nat) {rb : Nat} (v : Value) (bs : List Int) (e0 : Int) (F : Nat) (first cap : Array Value) (o : Except Int (Value × List Int)) (w : World) (h : Rdr w r rb v bs e0) (hF : ∀ args w, (callFunc F args).run Tryz.prog w = .ok (.enter F args) w)
    (hp : ∀ w1, RFr r w w1 → Rdr w1 r rb v bs 0 → Calls Tryz.prog F (first ++ cap) w1 fun e w' => PPost r rb w1 o e w') :
    Calls Tryz.prog 198 #[.pointer (some ⟨r, 0, none⟩), .func (Fn.func F) first cap] w fun e w' => RPost r rb w (rres (.int .i64 0) o bs e0) e w' := by
  by_cases he : e0 = 0
  · subst he
    unfold rres
    rw [if_pos rfl]
    rcases o with k | ⟨u, t⟩
    · exact (readI_fail r v bs F first cap k w h hF hp).mono fun e w' ⟨h1, h2, h3⟩ => ⟨h1, v, h2, h3⟩
    · exact (readI_ok r v bs t F first cap u w h hF hp).mono fun e w' ⟨h1, v2, h2, h3⟩ => ⟨h1, v2, h2, h3⟩
  · unfold rres
    rw [if_neg he]
    exact (readI_err r v bs e0 _ w h he).mono fun e w' ⟨h1, h2, h3⟩ => ⟨h1, v, h2, h3⟩

theorem readN_meth (r : Nat) {rb : Nat} (v : Value) (bs : List Int) (e0 : Int) (F : Nat) (first cap : Array Value) (o : Except Int (Value × List Int)) (w : World) (h : Rdr w r rb v bs e0) (hF : ∀ args w, (callFunc F args).run Tryz.prog w = .ok (.enter F args) w)
    (hp : ∀ w1, RFr r w w1 → Rdr w1 r rb v bs 0 → Calls Tryz.prog F (first ++ cap) w1 fun e w' => PPost r rb w1 o e w') :
    Calls Tryz.prog 174 #[.pointer (some ⟨r, 0, none⟩), .func (Fn.func F) first cap] w fun e w' => RPost r rb w (rres (.int .i64 0) o bs e0) e w' := by
  by_cases he : e0 = 0
  · subst he
    unfold rres
    rw [if_pos rfl]
    rcases o with k | ⟨u, t⟩
    · exact (readN_fail r v bs F first cap k w h hF hp).mono fun e w' ⟨h1, h2, h3⟩ => ⟨h1, v, h2, h3⟩
    · exact (readN_ok r v bs t F first cap u w h hF hp).mono fun e w' ⟨h1, v2, h2, h3⟩ => ⟨h1, v2, h2, h3⟩
  · unfold rres
    rw [if_neg he]
    exact (readN_err r v bs e0 _ w h he).mono fun e w' ⟨h1, h2, h3⟩ => ⟨h1, v, h2, h3⟩

theorem one_part (r : Nat) {rb : Nat} (v : Value) (bs : List Int) (w : World) (h : Rdr w r rb v bs 0) :
    Calls Tryz.prog 178 #[.pointer (some ⟨r, 0, none⟩)] w fun e w' => PPost r rb w (gByte bs) e w' := by
  cases bs with
  | nil => exact (one_short r v 0 w h).mono fun e w' ⟨h1, h2⟩ => ⟨h1, v, [], h2 ▸ h, h2 ▸ RFr.refl _ _⟩
  | cons b t => exact one_ok r v b t 0 w h
theorem word_part (r : Nat) {rb : Nat} (v : Value) (bs : List Int) (w : World) (h : Rdr w r rb v bs 0) (hB : BOk bs) :
    Calls Tryz.prog 180 #[.pointer (some ⟨r, 0, none⟩)] w fun e w' => PPost r rb w (gWord bs) e w' := by
  unfold gWord
  by_cases hl : bs.length < 8
  · rw [if_pos hl]
    exact (word_short r v bs 0 w h hl).mono fun e w' ⟨h1, h2⟩ => ⟨h1, v, bs, h2 ▸ h, h2 ▸ RFr.refl _ _⟩
  · rw [if_neg hl]
    exact word_read r v bs 0 w h hB (by omega)
theorem number_part (r : Nat) {rb : Nat} (v : Value) (bs : List Int) (w : World) (h : Rdr w r rb v bs 0) (hB : BOk bs) :
    Calls Tryz.prog 201 #[.pointer (some ⟨r, 0, none⟩)] w fun e w' => PPost r rb w (gNum (fun x => .int .u64 x) (unum 0 0 bs)) e w' :=
  (number_any r v bs 0 w h hB).mono fun _ _ h => PPost.of_came h

set_option maxHeartbeats 400000 in
set_option maxRecDepth 100000 in
theorem rByte_any (r : Nat) {rb : Nat} (v : Value) (bs : List Int) (e0 : Int) (w : World) (h : Rdr w r rb v bs e0) :
    Calls Tryz.prog 137 #[.pointer (some ⟨r, 0, none⟩)] w fun e w' => RPost r rb w (rres (.int .u8 0) (gByte bs) bs e0) e w' := by
  have hmf : ∀ (fn : Fn) (first cap : Array Value) (w : World), (Instr.makeFunc fn first cap).run Tryz.prog w = .ok (.func fn first cap) w := fun _ _ _ _ => rfl
  have hR := hide (read8_meth r v bs e0 178 #[.pointer (some ⟨r, 0, none⟩)] #[] (gByte bs) w h enters45 (fun w1 _ h1 => one_part r v bs w1 h1))
  clear h
  go_enter Tryz.func137, Tryz.ntmps137
  go_wp2_with fail
  refine (unhide hR).mono ?_
  rintro e w' ⟨rfl, hh⟩
  have HH := hide hh
  clear hh
  go_wp2
  go_ret
  exact ⟨rfl, unhide HH⟩

set_option maxHeartbeats 400000 in
set_option maxRecDepth 100000 in
theorem rUint_any (r : Nat) {rb : Nat} (v : Value) (bs : List Int) (e0 : Int) (w : World) (h : Rdr w r rb v bs e0) (hB : BOk bs) :
    Calls Tryz.prog 165 #[.pointer (some ⟨r, 0, none⟩)] w fun e w' => RPost r rb w (rres (.int .u64 0) (gNum (fun x => .int .u64 x) (unum 0 0 bs)) bs e0) e w' := by
  have hmf : ∀ (fn : Fn) (first cap : Array Value) (w : World), (Instr.makeFunc fn first cap).run Tryz.prog w = .ok (.func fn first cap) w := fun _ _ _ _ => rfl
  have hR := hide (readU_meth r v bs e0 201 #[.pointer (some ⟨r, 0, none⟩)] #[] (gNum (fun x => .int .u64 x) (unum 0 0 bs)) w h enters47 (fun w1 _ h1 => number_part r v bs w1 h1 hB))
  clear h
  go_enter Tryz.func165, Tryz.ntmps165
  go_wp2_with fail
  refine (unhide hR).mono ?_
  rintro e w' ⟨rfl, hh⟩
  have HH := hide hh
  clear hh
  go_wp2
  go_ret
  exact ⟨rfl, unhide HH⟩

set_option maxHeartbeats 400000 in
set_option maxRecDepth 100000 in
theorem rWord_any (r : Nat) {rb : Nat} (v : Value) (bs : List Int) (e0 : Int) (w : World) (h : Rdr w r rb v bs e0) (hB : BOk bs) :
    Calls Tryz.prog 138 #[.pointer (some ⟨r, 0, none⟩)] w fun e w' => RPost r rb w (rres (.int .u64 0) (gWord bs) bs e0) e w' := by
  have hmf : ∀ (fn : Fn) (first cap : Array Value) (w : World), (Instr.makeFunc fn first cap).run Tryz.prog w = .ok (.func fn first cap) w := fun _ _ _ _ => rfl
  have hR := hide (readU_meth r v bs e0 180 #[.pointer (some ⟨r, 0, none⟩)] #[] (gWord bs) w h enters52 (fun w1 _ h1 => word_part r v bs w1 h1 hB))
  clear h
  go_enter Tryz.func138, Tryz.ntmps138
  go_wp2_with fail
  refine (unhide hR).mono ?_
  rintro e w' ⟨rfl, hh⟩
  have HH := hide hh
  clear hh
  go_wp2
  go_ret
  exact ⟨rfl, unhide HH⟩


set_option maxHeartbeats 400000 in
set_option maxRecDepth 100000 in
theorem int_part (r : Nat) {rb : Nat} (v : Value) (bs : List Int) (q : Addr) (w : World) (h : Rdr w r rb v bs 0) (hB : BOk bs) (hq : w.cell? q = some (.pointer (some ⟨r, 0, none⟩))) :
    Calls Tryz.prog 199 #[.pointer (some q)] w fun e w' => PPost r rb w (gNum (fun x => .int .i64 (unfoldI x)) (unum 0 0 bs)) e w' := by
  have hN := hide (number_any r v bs 0 w h hB)
  rcases hu : unum 0 0 bs with k | ⟨x, t⟩
  · rw [hu] at hN
    clear h
    go_enter Tryz.func199, Tryz.ntmps199
    go_wp2_with fail
    refine (unhide hN).mono ?_
    rintro e w' ⟨rfl, hh⟩
    exact ⟨rfl, rfl, hh⟩
  · rw [hu] at hN
    have hx := (unum_lt 0 0 bs x t (by omega) (by simp) hB hu).1
    clear h hB hu
    go_enter Tryz.func199, Tryz.ntmps199
    go_wp2_with fail
    refine (unhide hN).mono ?_
    rintro e w' ⟨rfl, v2, hW, hF⟩
    have HH := hide (And.intro hW hF)
    have hU := hide (unfold_any x w' hx)
    clear hW hF
    go_wp2_with fail
    refine (unhide hU).mono ?_
    rintro e w2 ⟨rfl, rfl⟩
    go_wp2
    go_ret
    exact ⟨rfl, v2, (unhide HH).1, (unhide HH).2⟩

set_option maxHeartbeats 400000 in
set_option maxRecDepth 100000 in
theorem rInt_any (r : Nat) {rb : Nat} (v : Value) (bs : List Int) (e0 : Int) (w : World) (h : Rdr w r rb v bs e0) (hB : BOk bs) :
    Calls Tryz.prog 162 #[.pointer (some ⟨r, 0, none⟩)] w fun e w' => RPost r rb w (rres (.int .i64 0) (gNum (fun x => .int .i64 (unfoldI x)) (unum 0 0 bs)) bs e0) e w' := by
  have hmf : ∀ (fn : Fn) (first cap : Array Value) (w : World), (Instr.makeFunc fn first cap).run Tryz.prog w = .ok (.func fn first cap) w := fun _ _ _ _ => rfl
  have hr := h.lt
  have hR := hide (readI_meth r v bs e0 199 #[] #[.pointer (some ⟨w.heap.size, 0, none⟩)] (gNum (fun x => .int .i64 (unfoldI x)) (unum 0 0 bs)) (w.alloc (.cells #[.pointer (some ⟨r, 0, none⟩)] 99)) (h.alloc _) enters50
    (fun w1 hF h1 => int_part r v bs ⟨w.heap.size, 0, none⟩ w1 h1 hB (by rw [Fr.cell hF (a := ⟨w.heap.size, 0, none⟩) (by simp) (by simp; omega)]; simp)))
  clear h hB
  go_enter Tryz.func162, Tryz.ntmps162
  go_wp2_with fail
  refine (unhide hR).mono ?_
  rintro e w' ⟨rfl, v2, hW, hF⟩
  have HH := hide (And.intro hW hF)
  clear hW hF
  go_wp2
  go_ret
  exact ⟨rfl, v2, (unhide HH).1, ((Fr.refl _ _).alloc _ : RFr r w _).trans (unhide HH).2⟩

set_option maxHeartbeats 400000 in
set_option maxRecDepth 100000 in
theorem count_part (r : Nat) {rb : Nat} (v : Value) (bs : List Int) (most : Int) (q p : Addr) (w : World) (h : Rdr w r rb v bs 0) (hB : BOk bs) (hm : most ≤ 9223372036854775807) (hq : w.cell? q = some (.pointer (some ⟨r, 0, none⟩))) (hp : w.cell? p = some (.int .i64 most)) :
    Calls Tryz.prog 175 #[.pointer (some q), .pointer (some p)] w fun e w' => PPost r rb w (gNum (fun x => .int .i64 x) (unumMost most bs)) e w' := by
  have hN := hide (atMost_any r v bs 0 most w h hB hm)
  rcases hu : unumMost most bs with k | ⟨x, t⟩
  · rw [hu] at hN
    clear h
    go_enter Tryz.func175, Tryz.ntmps175
    go_wp2_with fail
    refine (unhide hN).mono ?_
    rintro e w' ⟨rfl, hh⟩
    exact ⟨rfl, rfl, hh⟩
  · rw [hu] at hN
    clear h hB hu
    go_enter Tryz.func175, Tryz.ntmps175
    go_wp2_with fail
    refine (unhide hN).mono ?_
    rintro e w' ⟨rfl, v2, hW, hF⟩
    have HH := hide (And.intro hW hF)
    clear hW hF
    go_wp2
    go_ret
    exact ⟨rfl, v2, (unhide HH).1, (unhide HH).2⟩

set_option maxHeartbeats 400000 in
set_option maxRecDepth 100000 in
theorem rCount_any (r : Nat) {rb : Nat} (v : Value) (bs : List Int) (e0 most : Int) (w : World) (h : Rdr w r rb v bs e0) (hB : BOk bs) (hm : most ≤ 9223372036854775807) :
    Calls Tryz.prog 136 #[.pointer (some ⟨r, 0, none⟩), .int .i64 most] w fun e w' => RPost r rb w (rres (.int .i64 0) (gNum (fun x => .int .i64 x) (unumMost most bs)) bs e0) e w' := by
  have hmf : ∀ (fn : Fn) (first cap : Array Value) (w : World), (Instr.makeFunc fn first cap).run Tryz.prog w = .ok (.func fn first cap) w := fun _ _ _ _ => rfl
  have hr := h.lt
  have hR := hide (readN_meth r v bs e0 175 #[] #[.pointer (some ⟨w.heap.size, 0, none⟩), .pointer (some ⟨w.heap.size + 1, 0, none⟩)] (gNum (fun x => .int .i64 x) (unumMost most bs))
    ((w.alloc (.cells #[.pointer (some ⟨r, 0, none⟩)] 99)).alloc (.cells #[.int .i64 most] 3)) ((h.alloc _).alloc _) enters75
    (fun w1 hF h1 => count_part r v bs most ⟨w.heap.size, 0, none⟩ ⟨w.heap.size + 1, 0, none⟩ w1 h1 hB hm
      (by rw [Fr.cell hF (a := ⟨w.heap.size, 0, none⟩) (by simp; omega) (by simp; omega)]; simp) (by rw [Fr.cell hF (a := ⟨w.heap.size + 1, 0, none⟩) (by simp) (by simp; omega)]; simp)))
  clear h hB
  go_enter Tryz.func136, Tryz.ntmps136
  go_wp2_with fail
  refine (unhide hR).mono ?_
  rintro e w' ⟨rfl, v2, hW, hF⟩
  have HH := hide (And.intro hW hF)
  clear hW hF
  go_wp2
  go_ret
  exact ⟨rfl, v2, (unhide HH).1, (RFr.alloc2 r w _ _).trans (unhide HH).2⟩


theorem catch_idleR (p q : Addr) (w : World) :
    CallsD Tryz.prog 173 #[.pointer (some p), .pointer (some q)] .returning w fun e u' w' => e = .returned (.tuple #[]) ∧ u' = .returning ∧ w' = w := by
  refine callsD_of_wpS Tryz.func173 rfl fun c₀ cs hu => ?_
  apply wpS_seq
  apply wpS_region
  simp [wpOpsS, go_sem, recoverD, hu, Tryz.ntmps173, Exit.thenS, ta_nil]
  apply wpS_seq
  apply wpS_region
  simp [wpOpsS, go_sem, Exit.thenS]
  refine wpS_cond (t := false) (by simp [Act.eval, Array.replicate]) ?_
  simp only [Bool.false_eq_true, if_false]
  refine wpS_of_wp (wp_skip ?_)
  cases c₀
  simp_all [bodyPostS, results, Tryz.results173]

set_option maxHeartbeats 400000 in
set_option maxRecDepth 100000 in
theorem catch_panickingR (r : Nat) (p q : Addr) (u0 : Value) (a0 : Option Addr) (l0 c0 : Nat) (x0 k : Int) (w : World) (hp : w.cell? p = some (.slice a0 l0 c0)) (hq : w.cell? q = some (.pointer (some ⟨r, 0, none⟩)))
    (h0 : w.cell? ⟨r, 0, none⟩ = some u0) (h1 : w.cell? ⟨r, 1, none⟩ = some (.int .i64 x0)) (f0 : w.frozen? ⟨r, 0, none⟩ = false) (f1 : w.frozen? ⟨r, 1, none⟩ = false) :
    CallsD Tryz.prog 173 #[.pointer (some p), .pointer (some q)] (.panicking [{ v := .iface 33 (.int .i64 k), recovered := false }]) w fun e u' w' =>
      e = .returned (.tuple #[]) ∧ u' = .panicking [{ v := .iface 33 (.int .i64 k), recovered := true }] ∧ w' = (w.setCell ⟨r, 0, none⟩ (.slice a0 l0 c0)).setCell ⟨r, 1, none⟩ (.int .i64 k) := by
  refine callsD_of_wpS Tryz.func173 rfl fun c₀ cs hu => ?_
  apply wpS_seq
  apply wpS_region
  simp [wpOpsS, go_sem, recoverD, hu, Tryz.ntmps173, Exit.thenS, ta_err]
  apply wpS_seq
  apply wpS_region
  simp [wpOpsS, go_sem, Exit.thenS]
  refine wpS_cond (t := true) (by simp [Act.eval, Array.replicate]) ?_
  simp only [if_true]
  simp [Array.replicate]
  refine wpS_of_wp ?_
  go_wp2
  exact ⟨rfl, _, rfl, _, by simp [results, Tryz.results173], rfl, rfl, rfl⟩

set_option maxHeartbeats 800000 in
set_option maxRecDepth 100000 in
theorem readR_fail (r : Nat) {rb : Nat} (v : Value) (bs : List Int) (F : Nat) (first cap : Array Value) (k : Int) (w : World) (h : Rdr w r rb v bs 0) (hF : ∀ args w, (callFunc F args).run Tryz.prog w = .ok (.enter F args) w)
    (hp : ∀ w1, RFr r w w1 → Rdr w1 r rb v bs 0 → Calls Tryz.prog F (first ++ cap) w1 fun e w' => e = errPanic k ∧ ∃ v2 bs2, Rdr w' r rb v2 bs2 0 ∧ RFr r w1 w') :
    Calls Tryz.prog 133 #[.pointer (some ⟨r, 0, none⟩), .func (Fn.func F) first cap] w fun e w' => e = .returned (.slice none 0 0) ∧ Rdr w' r rb v bs k ∧ RFr r w w' := by
  have hmf : ∀ (fn : Fn) (first cap : Array Value) (w : World), (Instr.makeFunc fn first cap).run Tryz.prog w = .ok (.func fn first cap) w := fun _ _ _ _ => rfl
  have c0 := h.c0
  have c1 := h.c1
  have hr := h.lt
  have HP := hide hp
  have H := hide h
  obtain ⟨a0, cap0, rfl⟩ := h.shape
  clear h hp
  go_enter_defers Tryz.func133, Tryz.ntmps133
  go_wp2_with fail
  refine (unhide HP _ (RFr.alloc2 _ _ _ _) (((unhide H).alloc _).alloc _)).mono ?_
  rintro e w' ⟨rfl, v2, bs2, hW, hR⟩
  have HH := hide (And.intro hW hR)
  clear hW hR
  refine leaves_cons (f := 173) (args := #[.pointer (some ⟨w.heap.size + 1, 0, none⟩), .pointer (some ⟨w.heap.size, 0, none⟩)]) (by simp) (by simp [go_sem]) ?_
  refine (catch_panickingR r ⟨w.heap.size + 1, 0, none⟩ ⟨w.heap.size, 0, none⟩ v2 a0 bs.length cap0 0 k w' ?_ ?_ (unhide HH).1.c0 (unhide HH).1.c1 (unhide HH).1.f0 (unhide HH).1.f1).mono ?_
  · rw [(unhide HH).2.cell (a := ⟨w.heap.size + 1, 0, none⟩) (by simp) (by simp; omega)]; simp
  · rw [(unhide HH).2.cell (a := ⟨w.heap.size, 0, none⟩) (by simp; omega) (by simp; omega)]; simp
  rintro e u' w'' ⟨rfl, rfl, rfl⟩
  have hback := (unhide HH).1.back (unhide H) ((RFr.alloc2 _ _ _ _).trans (unhide HH).2) k
  exact ⟨_, results_tmp rfl _ _ _, rfl, hback.1, hback.2⟩

set_option maxHeartbeats 800000 in
set_option maxRecDepth 100000 in
theorem readR_err (r : Nat) {rb : Nat} (v : Value) (bs : List Int) (e0 : Int) (fv : Value) (w : World) (h : Rdr w r rb v bs e0) (he : e0 ≠ 0) :
    Calls Tryz.prog 133 #[.pointer (some ⟨r, 0, none⟩), fv] w fun e w' => e = .returned (.slice none 0 0) ∧ Rdr w' r rb v bs e0 ∧ RFr r w w' := by
  have c1 := h.c1
  have hr := h.lt
  have H := hide h
  have he' : (e0 != 0) = true := by rw [bne_iff_ne]; exact he
  clear h he
  go_enter_defers Tryz.func133, Tryz.ntmps133
  go_wp2
  exact ⟨_, results_tmp rfl _ _ _, rfl, (unhide H).alloc _, (Fr.refl _ _).alloc _⟩


theorem addr_add (b off j : Nat) : (⟨b, off, none⟩ : Addr).add j = ⟨b, off + j, none⟩ := by unfold Addr.add; split <;> simp_all

/-- slices.Clone, of whatever bytes. -/
theorem clone_any (v : Value) (bs : List Int) (w : World) (h : Rd w v bs) (hb : bs.length ≤ 140737488355328) :
    Calls Tryz.prog 80 #[v] w fun e w' => ∃ v', e = .returned v' ∧ w'.ownsRow w.heap.size 5 1 v' bs.length (bs.map By) ∧ Below w.heap.size w w' := by
  rcases h with ⟨rfl, rfl⟩ | ⟨b, off, cap, rfl, h1, h2, h3, h4⟩
  · exact (clone_nil w).mono fun e w' ⟨h1, h2⟩ => ⟨_, h1, World.ownsRow_nil _ _ _ _, h2 ▸ Below.refl _ _⟩
  · refine clone_some ⟨b, off, none⟩ bs.length cap (bs.map By) w (by simp) ?_ (by simp [By, Value.oneCell']) hb h3
    intro j u hj
    rw [addr_add]
    have hlt : j < bs.length := by
      have := (List.getElem?_eq_some_iff.1 hj).1
      simpa using this
    rw [h4 j hlt]
    simp [List.getElem?_map, List.getElem?_eq_getElem hlt] at hj
    rw [← hj, List.getD_eq_getElem?_getD, List.getElem?_eq_getElem hlt]; rfl

set_option maxHeartbeats 800000 in
set_option maxRecDepth 100000 in
/-- read, at a list of bytes: whatever holds of the answer and the world behind the part holds behind it. -/
theorem readR_gen (r : Nat) {rb : Nat} (v : Value) (bs : List Int) (F : Nat) (first cap : Array Value) (P : Value → World → Prop) (w : World) (h : Rdr w r rb v bs 0) (hF : ∀ args w, (callFunc F args).run Tryz.prog w = .ok (.enter F args) w)
    (hp : ∀ w1, RFr r w w1 → Rdr w1 r rb v bs 0 → Calls Tryz.prog F (first ++ cap) w1 fun e w' => ∃ val, e = .returned val ∧ P val w') :
    Calls Tryz.prog 133 #[.pointer (some ⟨r, 0, none⟩), .func (Fn.func F) first cap] w fun e w' => ∃ val, e = .returned val ∧ P val w' := by
  have hmf : ∀ (fn : Fn) (first cap : Array Value) (w : World), (Instr.makeFunc fn first cap).run Tryz.prog w = .ok (.func fn first cap) w := fun _ _ _ _ => rfl
  have c0 := h.c0
  have c1 := h.c1
  have hr := h.lt
  have HP := hide hp
  have H := hide h
  obtain ⟨a0, cap0, rfl⟩ := h.shape
  clear h hp
  go_enter_defers Tryz.func133, Tryz.ntmps133
  go_wp2_with fail
  refine (unhide HP _ (RFr.alloc2 _ _ _ _) (((unhide H).alloc _).alloc _)).mono ?_
  rintro e w' ⟨val, rfl, hh⟩
  have HH := hide hh
  clear hh
  go_wp2
  refine leaves_cons (f := 173) (args := #[.pointer (some ⟨w.heap.size + 1, 0, none⟩), .pointer (some ⟨w.heap.size, 0, none⟩)]) (by simp) (by simp [go_sem]) ?_
  refine (catch_idleR _ _ _).mono ?_
  rintro e u' w'' ⟨rfl, rfl, rfl⟩
  exact ⟨_, results_tmp rfl _ _ _, val, rfl, unhide HH⟩

theorem enters57 (args : Array Value) (w : World) : (callFunc 134 args).run Tryz.prog w = .ok (.enter 134 args) w := by kernel_rfl

set_option maxHeartbeats 400000 in
set_option maxRecDepth 100000 in
theorem raw_part_fail (r : Nat) {rb : Nat} (v : Value) (bs : List Int) (n k : Int) (q p : Addr) (w : World) (h : Rdr w r rb v bs 0) (hk : n < 0 ∧ k = 1 ∨ (bs.length : Int) < n ∧ k = 2) (hq : w.cell? q = some (.pointer (some ⟨r, 0, none⟩))) (hp : w.cell? p = some (.int .i64 n)) :
    Calls Tryz.prog 134 #[.pointer (some q), .pointer (some p)] w fun e w' => PPost r rb w (.error k) e w' := by
  have hT : Hid (Calls Tryz.prog 135 #[.pointer (some ⟨r, 0, none⟩), .int .i64 n] w fun e w' => e = errPanic k ∧ w' = w) := by
    rcases hk with ⟨h1, rfl⟩ | ⟨h1, rfl⟩
    · exact take_neg r n w h1
    · exact take_short r n v bs 0 w h h1
  have H := hide h
  clear h hk
  go_enter Tryz.func134, Tryz.ntmps134
  go_wp2_with fail
  refine (unhide hT).mono ?_
  rintro e w' ⟨rfl, rfl⟩
  exact ⟨rfl, rfl, v, bs, unhide H, RFr.refl _ _⟩

set_option maxHeartbeats 400000 in
set_option maxRecDepth 100000 in
theorem raw_part_ok (r : Nat) {rb : Nat} (v : Value) (bs : List Int) (n : Nat) (q p : Addr) (w : World) (h : Rdr w r rb v bs 0) (hb : bs.length ≤ 140737488355328) (hn : n ≤ bs.length) (hq : w.cell? q = some (.pointer (some ⟨r, 0, none⟩))) (hp : w.cell? p = some (.int .i64 n)) :
    Calls Tryz.prog 134 #[.pointer (some q), .pointer (some p)] w fun e w' => ∃ val, e = .returned val ∧ w'.ownsRow w.heap.size 5 1 val n ((bs.take n).map By) ∧ ∃ v2, Rdr w' r rb v2 (bs.drop n) 0 ∧ RFr r w w' := by
  have hT := hide (take_ok r n v bs 0 w h hn)
  have hr := h.lt
  clear h
  go_enter Tryz.func134, Tryz.ntmps134
  go_wp2_with fail
  refine (unhide hT).mono ?_
  rintro e w1 ⟨v1, v2, rfl, hR, hap, hW, hF⟩
  have hC := hide (clone_any v1 (bs.take n) w1 hR (by rw [List.length_take]; omega))
  have HH := hide (And.intro hW hF)
  clear hR hap hW hF hT
  go_wp2_with fail
  refine (unhide hC).mono ?_
  rintro e w2 ⟨v3, rfl, ho, hB⟩
  have HO := hide (And.intro ho hB)
  clear ho hB
  go_wp2
  go_ret
  obtain ⟨hW, hF⟩ := unhide HH
  obtain ⟨ho, hB⟩ := unhide HO
  rw [List.length_take, Nat.min_eq_left hn] at ho
  have hf2 : Fr (fun _ => False) w1 w2 := Fr.of_below hB
  exact ⟨v3, rfl, own_mono ho hF.size, v2, hW.keep hf2 (by simp) (by simp), hF.trans (hf2.mono (by simp))⟩

/-- The error of Raw. -/
def rawErr (n : Int) (e0 : Int) : Int := if e0 = 0 then (if n < 0 then 1 else 2) else e0

theorem readR_bad (r : Nat) {rb : Nat} (v : Value) (bs : List Int) (e0 n : Int) (q p : Nat) (w : World) (h : Rdr w r rb v bs e0) (hq : w.cell? ⟨q, 0, none⟩ = some (.pointer (some ⟨r, 0, none⟩))) (hp : w.cell? ⟨p, 0, none⟩ = some (.int .i64 n)) (hqr : q ≠ r) (hpr : p ≠ r)
    (hbad : e0 ≠ 0 ∨ n < 0 ∨ (bs.length : Int) < n) :
    Calls Tryz.prog 133 #[.pointer (some ⟨r, 0, none⟩), .func (Fn.func 134) #[] #[.pointer (some ⟨q, 0, none⟩), .pointer (some ⟨p, 0, none⟩)]] w fun e w' => RPost r rb w (.slice none 0 0, bs, rawErr n e0) e w' := by
  have hql := World.block_lt_of_cell? _ _ hq
  have hpl := World.block_lt_of_cell? _ _ hp
  by_cases he : e0 = 0
  · subst he
    have hbad := hbad.resolve_left (by simp)
    refine (readR_fail r v bs 134 #[] #[.pointer (some ⟨q, 0, none⟩), .pointer (some ⟨p, 0, none⟩)] (rawErr n 0) w h enters57 (fun w1 hF h1 => ?_)).mono fun e w' ⟨h1, h2, h3⟩ => ⟨h1, v, h2, h3⟩
    refine raw_part_fail r v bs n _ ⟨q, 0, none⟩ ⟨p, 0, none⟩ w1 h1 ?_ ((Fr.cell hF (a := ⟨q, 0, none⟩) hql hqr).trans hq) ((Fr.cell hF (a := ⟨p, 0, none⟩) hpl hpr).trans hp)
    unfold rawErr
    rw [if_pos rfl]
    by_cases hn : n < 0
    · exact .inl ⟨hn, if_pos hn⟩
    · exact .inr ⟨hbad.resolve_left hn, if_neg hn⟩
  · unfold rawErr
    rw [if_neg he]
    exact (readR_err r v bs e0 _ w h he).mono fun e w' ⟨h1, h2, h3⟩ => ⟨h1, v, h2, h3⟩

theorem readR_good (r : Nat) {rb : Nat} (v : Value) (bs : List Int) (m : Nat) (q p : Nat) (w : World) (h : Rdr w r rb v bs 0) (hb : bs.length ≤ 140737488355328) (hq : w.cell? ⟨q, 0, none⟩ = some (.pointer (some ⟨r, 0, none⟩))) (hp : w.cell? ⟨p, 0, none⟩ = some (.int .i64 (m : Int))) (hqr : q ≠ r) (hpr : p ≠ r)
    (hm : m ≤ bs.length) :
    Calls Tryz.prog 133 #[.pointer (some ⟨r, 0, none⟩), .func (Fn.func 134) #[] #[.pointer (some ⟨q, 0, none⟩), .pointer (some ⟨p, 0, none⟩)]] w fun e w' =>
      ∃ val, e = .returned val ∧ w'.ownsRow w.heap.size 5 1 val m ((bs.take m).map By) ∧ ∃ v2, Rdr w' r rb v2 (bs.drop m) 0 ∧ RFr r w w' := by
  have hql := World.block_lt_of_cell? _ _ hq
  have hpl := World.block_lt_of_cell? _ _ hp
  refine readR_gen r v bs 134 #[] #[.pointer (some ⟨q, 0, none⟩), .pointer (some ⟨p, 0, none⟩)] _ w h enters57 (fun w1 hF h1 => ?_)
  refine (raw_part_ok r v bs m ⟨q, 0, none⟩ ⟨p, 0, none⟩ w1 h1 hb hm ((Fr.cell hF (a := ⟨q, 0, none⟩) hql hqr).trans hq) ((Fr.cell hF (a := ⟨p, 0, none⟩) hpl hpr).trans hp)).mono ?_
  rintro e w' ⟨val, rfl, ho, v2, h2, h3⟩
  exact ⟨val, rfl, own_mono ho hF.size, v2, h2, hF.trans h3⟩

set_option maxHeartbeats 400000 in
set_option maxRecDepth 100000 in
theorem rRaw_bad (r : Nat) {rb : Nat} (v : Value) (bs : List Int) (e0 n : Int) (w : World) (h : Rdr w r rb v bs e0) (hbad : e0 ≠ 0 ∨ n < 0 ∨ (bs.length : Int) < n) :
    Calls Tryz.prog 85 #[.pointer (some ⟨r, 0, none⟩), .int .i64 n] w fun e w' => RPost r rb w (.slice none 0 0, bs, rawErr n e0) e w' := by
  have hmf : ∀ (fn : Fn) (first cap : Array Value) (w : World), (Instr.makeFunc fn first cap).run Tryz.prog w = .ok (.func fn first cap) w := fun _ _ _ _ => rfl
  have hr := h.lt
  have hR := hide (readR_bad r v bs e0 n w.heap.size (w.heap.size + 1) ((w.alloc (.cells #[.pointer (some ⟨r, 0, none⟩)] 99)).alloc (.cells #[.int .i64 n] 3)) ((h.alloc _).alloc _) (by simp) (by simp) (by omega) (by omega) hbad)
  clear h hbad
  go_enter Tryz.func85, Tryz.ntmps85
  go_wp2_with fail
  refine (unhide hR).mono ?_
  rintro e w' ⟨rfl, v2, hW, hF⟩
  have HH := hide (And.intro hW hF)
  clear hW hF
  go_wp2
  go_ret
  exact ⟨rfl, v2, (unhide HH).1, (RFr.alloc2 r w _ _).trans (unhide HH).2⟩

set_option maxHeartbeats 400000 in
set_option maxRecDepth 100000 in
theorem rRaw_good (r : Nat) {rb : Nat} (v : Value) (bs : List Int) (m : Nat) (w : World) (h : Rdr w r rb v bs 0) (hb : bs.length ≤ 140737488355328) (hm : m ≤ bs.length) :
    Calls Tryz.prog 85 #[.pointer (some ⟨r, 0, none⟩), .int .i64 (m : Int)] w fun e w' =>
      ∃ val, e = .returned val ∧ w'.ownsRow w.heap.size 5 1 val m ((bs.take m).map By) ∧ ∃ v2, Rdr w' r rb v2 (bs.drop m) 0 ∧ RFr r w w' := by
  have hmf : ∀ (fn : Fn) (first cap : Array Value) (w : World), (Instr.makeFunc fn first cap).run Tryz.prog w = .ok (.func fn first cap) w := fun _ _ _ _ => rfl
  have hr := h.lt
  have hR := hide (readR_good r v bs m w.heap.size (w.heap.size + 1) ((w.alloc (.cells #[.pointer (some ⟨r, 0, none⟩)] 99)).alloc (.cells #[.int .i64 (m : Int)] 3)) ((h.alloc _).alloc _) hb (by simp) (by simp) (by omega) (by omega) hm)
  clear h
  go_enter Tryz.func85, Tryz.ntmps85
  go_wp2_with fail
  refine (unhide hR).mono ?_
  rintro e w' ⟨val, rfl, ho, v2, hW, hF⟩
  have HH := hide (And.intro ho (And.intro hW hF))
  clear ho hW hF
  go_wp2
  go_ret
  obtain ⟨ho, hW, hF⟩ := unhide HH
  exact ⟨val, rfl, own_mono ho (by simp; omega), v2, hW, (RFr.alloc2 r w _ _).trans hF⟩

set_option maxHeartbeats 400000 in
set_option maxRecDepth 100000 in
theorem newReader_any (v : Value) (bs : List Int) (w : World) (h : Rd w v bs) (hb : bs.length ≤ 140737488355328) :
    Calls Tryz.prog 50 #[v] w fun e w' => ∃ r rb v2, e = .returned (.pointer (some ⟨r, 0, none⟩)) ∧ w.heap.size ≤ r ∧ w.heap.size ≤ rb ∧ Rdr w' r rb v2 bs 0 ∧ Below w.heap.size w w' := by
  have hC := hide (clone_any v bs w h hb)
  clear h
  go_enter Tryz.func50, Tryz.ntmps50
  go_wp2_with fail
  refine (unhide hC).mono ?_
  rintro e w1 ⟨v3, rfl, ho, hB⟩
  obtain ⟨a, l, c, rfl⟩ := own_shape ho
  have HO := hide (And.intro ho hB)
  clear ho hB
  go_wp2
  go_ret
  obtain ⟨ho, hB⟩ := unhide HO
  have hR := Rd.of_own ho
  have hlt := ho.lt
  refine ⟨w1.heap.size, ((Value.slice a l c).ownBlock).getD (w1.heap.size + 1), .slice a l c, rfl, hB.size, ?_, ⟨by simp, by simp, ?_, ?_, hR.keep (S := fun _ => False) ((Fr.refl _ _).alloc _) (by simp), ?_, ?_⟩, hB.alloc hB.size _⟩
  · cases a with
    | none => simp [Value.ownBlock]; have := hB.size; omega
    | some x => exact (hlt x.block rfl).1
  · simp only [World.frozen?, heap_alloc_new]; rfl
  · simp only [World.frozen?, heap_alloc_new]; rfl
  · intro b off len cap hv
    rw [hv]; rfl
  · cases a with
    | none => simp [Value.ownBlock]
    | some x => have := (hlt x.block rfl).2; simp [Value.ownBlock]; omega

set_option maxHeartbeats 400000 in
set_option maxRecDepth 100000 in
theorem rLeft_any (r : Nat) {rb : Nat} (v : Value) (bs : List Int) (e0 : Int) (w : World) (h : Rdr w r rb v bs e0) :
    Calls Tryz.prog 183 #[.pointer (some ⟨r, 0, none⟩)] w fun e w' => e = .returned (.int .i64 (bs.length : Int)) ∧ w' = w := by
  obtain ⟨a, cap, rfl⟩ := h.shape
  have c0 := h.c0
  clear h
  go_enter Tryz.func183, Tryz.ntmps183
  go_wp2
  go_ret
  exact ⟨rfl, rfl⟩

set_option maxHeartbeats 400000 in
set_option maxRecDepth 100000 in
theorem rErr_any (r : Nat) {rb : Nat} (v : Value) (bs : List Int) (e0 : Int) (w : World) (h : Rdr w r rb v bs e0) :
    Calls Tryz.prog 86 #[.pointer (some ⟨r, 0, none⟩)] w fun e w' => e = .returned (.int .i64 e0) ∧ w' = w := by
  have c1 := h.c1
  clear h
  go_enter Tryz.func86, Tryz.ntmps86
  go_wp2
  go_ret
  exact ⟨rfl, rfl⟩

/-- What End answers. -/
def rEnd (bs : List Int) (e0 : Int) : Int := if e0 = 0 then (if bs.length = 0 then 0 else 3) else e0

set_option maxHeartbeats 400000 in
set_option maxRecDepth 100000 in
theorem rEnd_any (r : Nat) {rb : Nat} (v : Value) (bs : List Int) (e0 : Int) (w : World) (h : Rdr w r rb v bs e0) :
    Calls Tryz.prog 91 #[.pointer (some ⟨r, 0, none⟩)] w fun e w' => e = .returned (.int .i64 (rEnd bs e0)) ∧ w' = w := by
  obtain ⟨a, cap, rfl⟩ := h.shape
  have c0 := h.c0
  have c1 := h.c1
  clear h
  by_cases he : e0 = 0
  · subst he
    by_cases hl : bs.length = 0
    · have e1 : rEnd bs 0 = 0 := by simp [rEnd, hl]
      rw [hl] at c0
      rw [e1]
      clear e1
      go_enter Tryz.func91, Tryz.ntmps91
      go_wp2
      go_ret
      exact ⟨rfl, rfl⟩
    · have e1 : rEnd bs 0 = 3 := by simp only [rEnd, if_true, if_neg hl]
      rw [e1]
      have q : (0 : Int) < (bs.length : Int) := by omega
      clear e1
      go_enter Tryz.func91, Tryz.ntmps91
      go_wp2
      go_ret
      exact ⟨rfl, rfl⟩
  · have e1 : rEnd bs e0 = e0 := by simp only [rEnd, if_neg he]
    rw [e1]
    have q : (e0 == 0) = false := by rw [beq_eq_false_iff_ne]; exact he
    clear e1
    go_enter Tryz.func91, Tryz.ntmps91
    go_wp2
    go_ret
    exact ⟨rfl, rfl⟩


theorem catch_idleS (p q : Addr) (w : World) :
    CallsD Tryz.prog 206 #[.pointer (some p), .pointer (some q)] .returning w fun e u' w' => e = .returned (.tuple #[]) ∧ u' = .returning ∧ w' = w := by
  refine callsD_of_wpS Tryz.func206 rfl fun c₀ cs hu => ?_
  apply wpS_seq
  apply wpS_region
  simp [wpOpsS, go_sem, recoverD, hu, Tryz.ntmps206, Exit.thenS, ta_nil]
  apply wpS_seq
  apply wpS_region
  simp [wpOpsS, go_sem, Exit.thenS]
  refine wpS_cond (t := false) (by simp [Act.eval, Array.replicate]) ?_
  simp only [Bool.false_eq_true, if_false]
  refine wpS_of_wp (wp_skip ?_)
  cases c₀
  simp_all [bodyPostS, results, Tryz.results206]

set_option maxHeartbeats 400000 in
set_option maxRecDepth 100000 in
theorem catch_panickingS (r : Nat) (p q : Addr) (u0 : Value) (a0 : Option Addr) (l0 c0 : Nat) (x0 k : Int) (w : World) (hp : w.cell? p = some (.slice a0 l0 c0)) (hq : w.cell? q = some (.pointer (some ⟨r, 0, none⟩)))
    (h0 : w.cell? ⟨r, 0, none⟩ = some u0) (h1 : w.cell? ⟨r, 1, none⟩ = some (.int .i64 x0)) (f0 : w.frozen? ⟨r, 0, none⟩ = false) (f1 : w.frozen? ⟨r, 1, none⟩ = false) :
    CallsD Tryz.prog 206 #[.pointer (some p), .pointer (some q)] (.panicking [{ v := .iface 33 (.int .i64 k), recovered := false }]) w fun e u' w' =>
      e = .returned (.tuple #[]) ∧ u' = .panicking [{ v := .iface 33 (.int .i64 k), recovered := true }] ∧ w' = (w.setCell ⟨r, 0, none⟩ (.slice a0 l0 c0)).setCell ⟨r, 1, none⟩ (.int .i64 k) := by
  refine callsD_of_wpS Tryz.func206 rfl fun c₀ cs hu => ?_
  apply wpS_seq
  apply wpS_region
  simp [wpOpsS, go_sem, recoverD, hu, Tryz.ntmps206, Exit.thenS, ta_err]
  apply wpS_seq
  apply wpS_region
  simp [wpOpsS, go_sem, Exit.thenS]
  refine wpS_cond (t := true) (by simp [Act.eval, Array.replicate]) ?_
  simp only [if_true]
  simp [Array.replicate]
  refine wpS_of_wp ?_
  go_wp2
  exact ⟨rfl, _, rfl, _, by simp [results, Tryz.results206], rfl, rfl, rfl⟩

set_option maxHeartbeats 800000 in
set_option maxRecDepth 100000 in
theorem readS_ok (r : Nat) {rb : Nat} (v : Value) (bs bs' : List Int) (F : Nat) (first cap : Array Value) (val : Value) (w : World) (h : Rdr w r rb v bs 0) (hF : ∀ args w, (callFunc F args).run Tryz.prog w = .ok (.enter F args) w)
    (hp : ∀ w1, RFr r w w1 → Rdr w1 r rb v bs 0 → Calls Tryz.prog F (first ++ cap) w1 fun e w' => e = .returned val ∧ ∃ v2, Rdr w' r rb v2 bs' 0 ∧ RFr r w1 w') :
    Calls Tryz.prog 181 #[.pointer (some ⟨r, 0, none⟩), .func (Fn.func F) first cap] w fun e w' => e = .returned val ∧ ∃ v2, Rdr w' r rb v2 bs' 0 ∧ RFr r w w' := by
  have hmf : ∀ (fn : Fn) (first cap : Array Value) (w : World), (Instr.makeFunc fn first cap).run Tryz.prog w = .ok (.func fn first cap) w := fun _ _ _ _ => rfl
  have c0 := h.c0
  have c1 := h.c1
  have hr := h.lt
  have HP := hide hp
  have H := hide h
  obtain ⟨a0, cap0, rfl⟩ := h.shape
  clear h hp
  go_enter_defers Tryz.func181, Tryz.ntmps181
  go_wp2_with fail
  refine (unhide HP _ (RFr.alloc2 _ _ _ _) (((unhide H).alloc _).alloc _)).mono ?_
  rintro e w' ⟨rfl, v2, hW, hR⟩
  have HH := hide (And.intro hW hR)
  clear hW hR
  go_wp2
  refine leaves_cons (f := 206) (args := #[.pointer (some ⟨w.heap.size + 1, 0, none⟩), .pointer (some ⟨w.heap.size, 0, none⟩)]) (by simp) (by simp [go_sem]) ?_
  refine (catch_idleS _ _ _).mono ?_
  rintro e u' w'' ⟨rfl, rfl, rfl⟩
  exact ⟨_, results_tmp rfl _ _ _, rfl, v2, (unhide HH).1, (RFr.alloc2 _ _ _ _).trans (unhide HH).2⟩

set_option maxHeartbeats 800000 in
set_option maxRecDepth 100000 in
theorem readS_fail (r : Nat) {rb : Nat} (v : Value) (bs : List Int) (F : Nat) (first cap : Array Value) (k : Int) (w : World) (h : Rdr w r rb v bs 0) (hF : ∀ args w, (callFunc F args).run Tryz.prog w = .ok (.enter F args) w)
    (hp : ∀ w1, RFr r w w1 → Rdr w1 r rb v bs 0 → Calls Tryz.prog F (first ++ cap) w1 fun e w' => e = errPanic k ∧ ∃ v2 bs2, Rdr w' r rb v2 bs2 0 ∧ RFr r w1 w') :
    Calls Tryz.prog 181 #[.pointer (some ⟨r, 0, none⟩), .func (Fn.func F) first cap] w fun e w' => e = .returned (.string ByteArray.empty) ∧ Rdr w' r rb v bs k ∧ RFr r w w' := by
  have hmf : ∀ (fn : Fn) (first cap : Array Value) (w : World), (Instr.makeFunc fn first cap).run Tryz.prog w = .ok (.func fn first cap) w := fun _ _ _ _ => rfl
  have c0 := h.c0
  have c1 := h.c1
  have hr := h.lt
  have HP := hide hp
  have H := hide h
  obtain ⟨a0, cap0, rfl⟩ := h.shape
  clear h hp
  go_enter_defers Tryz.func181, Tryz.ntmps181
  go_wp2_with fail
  refine (unhide HP _ (RFr.alloc2 _ _ _ _) (((unhide H).alloc _).alloc _)).mono ?_
  rintro e w' ⟨rfl, v2, bs2, hW, hR⟩
  have HH := hide (And.intro hW hR)
  clear hW hR
  refine leaves_cons (f := 206) (args := #[.pointer (some ⟨w.heap.size + 1, 0, none⟩), .pointer (some ⟨w.heap.size, 0, none⟩)]) (by simp) (by simp [go_sem]) ?_
  refine (catch_panickingS r ⟨w.heap.size + 1, 0, none⟩ ⟨w.heap.size, 0, none⟩ v2 a0 bs.length cap0 0 k w' ?_ ?_ (unhide HH).1.c0 (unhide HH).1.c1 (unhide HH).1.f0 (unhide HH).1.f1).mono ?_
  · rw [(unhide HH).2.cell (a := ⟨w.heap.size + 1, 0, none⟩) (by simp) (by simp; omega)]; simp
  · rw [(unhide HH).2.cell (a := ⟨w.heap.size, 0, none⟩) (by simp; omega) (by simp; omega)]; simp
  rintro e u' w'' ⟨rfl, rfl, rfl⟩
  have hback := (unhide HH).1.back (unhide H) ((RFr.alloc2 _ _ _ _).trans (unhide HH).2) k
  exact ⟨_, results_tmp rfl _ _ _, rfl, hback.1, hback.2⟩

set_option maxHeartbeats 800000 in
set_option maxRecDepth 100000 in
theorem readS_err (r : Nat) {rb : Nat} (v : Value) (bs : List Int) (e0 : Int) (fv : Value) (w : World) (h : Rdr w r rb v bs e0) (he : e0 ≠ 0) :
    Calls Tryz.prog 181 #[.pointer (some ⟨r, 0, none⟩), fv] w fun e w' => e = .returned (.string ByteArray.empty) ∧ Rdr w' r rb v bs e0 ∧ RFr r w w' := by
  have c1 := h.c1
  have hr := h.lt
  have H := hide h
  have he' : (e0 != 0) = true := by rw [bne_iff_ne]; exact he
  clear h he
  go_enter_defers Tryz.func181, Tryz.ntmps181
  go_wp2
  exact ⟨_, results_tmp rfl _ _ _, rfl, (unhide H).alloc _, (Fr.refl _ _).alloc _⟩


/-- The bytes as a string. -/
def toStr (bs : List Int) : ByteArray := ⟨(bs.map fun b => UInt8.ofNat b.toNat).toArray⟩

/-- A text of at most so many bytes. -/
def gText (most : Int) (bs : List Int) : Except Int (Value × List Int) :=
  match unumMost most bs with
  | .error k => .error k
  | .ok (x, t) => if t.length < x then .error 2 else .ok (.string (toStr (t.take x)), t.drop x)

theorem toStr_size (bs : List Int) : (toStr bs).size = bs.length := by
  show ((bs.map fun b => UInt8.ofNat b.toNat).toArray).size = _
  simp
/-- A slice of bytes as a string. -/
theorem str_conv (w : World) (v : Value) (bs : List Int) (h : Rd w v bs) (hB : BOk bs) : (convert 27 9 v).run Tryz.prog w = .ok (.string (toStr bs)) w := by
  rcases h with ⟨rfl, rfl⟩ | ⟨b, off, cap, rfl, h1, h2, h3, h4⟩
  · exact Lib.run_convert_nil_bytes w 27 9 5 0 Tryz.underlying27 Tryz.underlying5 Tryz.underlying9
  · have h := run_convert_bytes_back (P := Tryz.prog) w 27 9 5 ⟨b, off, none⟩ cap (bs.map fun b => UInt8.ofNat b.toNat) Tryz.underlying27 Tryz.underlying5 Tryz.underlying9 (by
      intro j hj
      rw [List.length_map] at hj
      rw [addr_add, h4 j hj]
      have hb := hB bs[j] (List.getElem_mem _)
      rw [List.getElem_map, List.getD_eq_getElem?_getD, List.getElem?_eq_getElem hj, Option.getD_some, UInt8.toNat_ofNat']
      congr 2
      omega)
    rw [List.length_map] at h
    exact h
theorem unumMost_ok {most : Int} {bs : List Int} {x : Nat} {t : List Int} (hB : BOk bs) (h : unumMost most bs = .ok (x, t)) : BOk t := by
  unfold unumMost at h
  rcases hu : unum 0 0 bs with k | ⟨y, t'⟩
  · rw [hu] at h; cases h
  · rw [hu] at h
    simp only at h
    split at h
    · cases h
    · cases h
      exact (unum_lt 0 0 bs x t (by omega) (by simp) hB hu).2

theorem Rdr.drew {w : World} {r rb : Nat} {v : Value} {bs : List Int} {e : Int} (h : Rdr w r rb v bs e) : Rdr w.drew r rb v bs e :=
  h.keep (S := fun _ => False) (Fr.refl _ _).drew (by simp) (by simp)

set_option maxHeartbeats 800000 in
set_option maxRecDepth 100000 in
theorem text_part (r : Nat) {rb : Nat} (v : Value) (bs : List Int) (most : Int) (q p : Addr) (w : World) (h : Rdr w r rb v bs 0) (hB : BOk bs) (hm : most ≤ 9223372036854775807) (hq : w.cell? q = some (.pointer (some ⟨r, 0, none⟩))) (hp : w.cell? p = some (.int .i64 most)) (hqr : q.block ≠ r) (hpr : p.block ≠ r) :
    Calls Tryz.prog 182 #[.pointer (some q), .pointer (some p)] w fun e w' => PPost r rb w (gText most bs) e w' := by
  have hN := hide (atMost_any r v bs 0 most w.drew h.drew hB hm)
  have hdr : Hid (RFr r w w.drew) := (Fr.refl _ _).drew
  unfold gText
  rcases hu : unumMost most bs with k | ⟨x, t⟩
  · rw [hu] at hN
    clear h
    go_enter Tryz.func182, Tryz.ntmps182
    go_wp2_with fail
    refine wp_region_held_drew (S := fun w' => w'.cell? q = some (.pointer (some ⟨r, 0, none⟩)) ∧ w'.cell? p = some (.int .i64 most)) (by kernel_rfl) ⟨hq, hp⟩ (fun hHeld => ?_)
    refine wpAnyH_take (i := 0) (oi := _) (v := .pointer (some ⟨r, 0, none⟩)) rfl (by kernel_rfl) (by kernel_rfl) (by kernel_rfl) (fun _ _ _ h => h) (Or.inl ⟨by rfl, (by intro w hSw; go_simp)⟩) (by assumption) ?_
    refine wpAnyH_take (i := 1) (oi := _) (v := .pointer (some ⟨r, 0, none⟩)) rfl (by kernel_rfl) (by kernel_rfl) (by kernel_rfl) (fun _ _ _ h => h) (Or.inl ⟨by rfl, (by intro w hSw; go_simp)⟩) (by assumption) ?_
    refine wpAnyH_take (i := 2) (oi := _) (v := .int .i64 most) rfl (by kernel_rfl) (by kernel_rfl) (by kernel_rfl) (fun _ _ _ h => h) (Or.inl ⟨by rfl, (by intro w hSw; go_simp)⟩) (by assumption) ?_
    simp only [Act.put, List.setIfInBounds_toArray]
    refine wpAnyH_ready (rs := [3]) (by kernel_rfl) (by simp) ?_
    refine AllReadyH.cons (o := _) rfl (fun K hK => ?_) AllReadyH.nil
    go_simp
    refine (unhide hN).mono ?_
    rintro e w' ⟨rfl, v2, bs2, h1, h2⟩
    exact ⟨rfl, rfl, v2, bs2, h1, (unhide hdr).trans h2⟩
  · rw [hu] at hN
    have hrl := h.lt
    clear h
    go_enter Tryz.func182, Tryz.ntmps182
    go_wp2_with fail
    refine wp_region_held_drew (S := fun w' => w'.cell? q = some (.pointer (some ⟨r, 0, none⟩)) ∧ w'.cell? p = some (.int .i64 most)) (by kernel_rfl) ⟨hq, hp⟩ (fun hHeld => ?_)
    refine wpAnyH_take (i := 0) (oi := _) (v := .pointer (some ⟨r, 0, none⟩)) rfl (by kernel_rfl) (by kernel_rfl) (by kernel_rfl) (fun _ _ _ h => h) (Or.inl ⟨by rfl, (by intro w hSw; go_simp)⟩) (by assumption) ?_
    refine wpAnyH_take (i := 1) (oi := _) (v := .pointer (some ⟨r, 0, none⟩)) rfl (by kernel_rfl) (by kernel_rfl) (by kernel_rfl) (fun _ _ _ h => h) (Or.inl ⟨by rfl, (by intro w hSw; go_simp)⟩) (by assumption) ?_
    refine wpAnyH_take (i := 2) (oi := _) (v := .int .i64 most) rfl (by kernel_rfl) (by kernel_rfl) (by kernel_rfl) (fun _ _ _ h => h) (Or.inl ⟨by rfl, (by intro w hSw; go_simp)⟩) (by assumption) ?_
    simp only [Act.put, List.setIfInBounds_toArray]
    refine wpAnyH_ready (rs := [3]) (by kernel_rfl) (by simp) ?_
    refine AllReadyH.cons (o := _) rfl (fun K hK => ?_) AllReadyH.nil
    go_simp
    refine (unhide hN).mono ?_
    rintro e w1 ⟨rfl, v2, h1, h2⟩
    have hS1 : w1.cell? q = some (.pointer (some ⟨r, 0, none⟩)) ∧ w1.cell? p = some (.int .i64 most) :=
      ⟨(Fr.cell h2 (World.block_lt_of_cell? _ _ hq) hqr).trans hq, (Fr.cell h2 (World.block_lt_of_cell? _ _ hp) hpr).trans hp⟩
    go_simp
    refine hK.out _ _ hS1 (fun hHeld1 => ?_)
    clear hK K
    by_cases hx : t.length < x
    · have hT := hide (take_short r x v2 t 0 w1 h1 (by omega))
      refine wpAnyH_ready (rs := [4]) (by kernel_rfl) (by simp) ?_
      refine AllReadyH.cons (o := _) rfl (fun K hK => ?_) AllReadyH.nil
      go_simp
      refine (unhide hT).mono ?_
      rintro e w' ⟨rfl, rfl⟩
      refine ⟨rfl, ?_⟩
      rw [if_pos hx]
      exact ⟨rfl, v2, t, h1, (unhide hdr).trans h2⟩
    · have hT := hide (take_ok r x v2 t 0 w1 h1 (by omega))
      have hBt := (unumMost_ok hB hu)
      refine wpAnyH_ready (rs := [4]) (by kernel_rfl) (by simp) ?_
      refine AllReadyH.cons (o := _) rfl (fun K hK => ?_) AllReadyH.nil
      go_simp
      refine (unhide hT).mono ?_
      rintro e w2 ⟨v1, v3, rfl, hR, hap, hW, hF⟩
      have hS2 : w2.cell? q = some (.pointer (some ⟨r, 0, none⟩)) ∧ w2.cell? p = some (.int .i64 most) :=
        ⟨(Fr.cell hF (World.block_lt_of_cell? _ _ hS1.1) hqr).trans hS1.1, (Fr.cell hF (World.block_lt_of_cell? _ _ hS1.2) hpr).trans hS1.2⟩
      have hcv := str_conv w2 v1 (t.take x) hR (fun b hb => hBt b (List.mem_of_mem_take hb))
      have HH := hide (And.intro hW hF)
      clear hW hF hR hap hT
      go_simp
      refine hK.out _ _ hS2 (fun hHeld2 => ?_)
      clear hK K
      refine wpAnyH_ready (rs := [5]) (by kernel_rfl) (by simp) ?_
      refine AllReadyH.cons (o := _) rfl (fun K hK => ?_) AllReadyH.nil
      go_simp
      refine hK.out _ _ hS2 (fun hHeld3 => ?_)
      clear hK K
      refine wpAnyH_ready (rs := [6]) (by kernel_rfl) (by simp) ?_
      refine AllReadyH.cons (o := _) rfl (fun K hK => ?_) AllReadyH.nil
      go_simp
      refine hK.out _ _ hS2 (fun hHeld4 => ?_)
      clear hK K
      refine wpAnyH_done (by kernel_rfl) ?_ _
      clear hcv
      go_wp2
      go_ret
      try rw [if_neg hx]
      exact ⟨rfl, v3, (unhide HH).1, (unhide hdr).trans (h2.trans (unhide HH).2)⟩

theorem enters41 (args : Array Value) (w : World) : (callFunc 182 args).run Tryz.prog w = .ok (.enter 182 args) w := by kernel_rfl

theorem readS_meth (r : Nat) {rb : Nat} (v : Value) (bs : List Int) (e0 : Int) (F : Nat) (first cap : Array Value) (o : Except Int (Value × List Int)) (w : World) (h : Rdr w r rb v bs e0) (hF : ∀ args w, (callFunc F args).run Tryz.prog w = .ok (.enter F args) w)
    (hp : ∀ w1, RFr r w w1 → Rdr w1 r rb v bs 0 → Calls Tryz.prog F (first ++ cap) w1 fun e w' => PPost r rb w1 o e w') :
    Calls Tryz.prog 181 #[.pointer (some ⟨r, 0, none⟩), .func (Fn.func F) first cap] w fun e w' => RPost r rb w (rres (.string ByteArray.empty) o bs e0) e w' := by
  by_cases he : e0 = 0
  · subst he
    unfold rres
    rw [if_pos rfl]
    rcases o with k | ⟨u, t⟩
    · exact (readS_fail r v bs F first cap k w h hF hp).mono fun e w' ⟨h1, h2, h3⟩ => ⟨h1, v, h2, h3⟩
    · exact (readS_ok r v bs t F first cap u w h hF hp).mono fun e w' ⟨h1, v2, h2, h3⟩ => ⟨h1, v2, h2, h3⟩
  · unfold rres
    rw [if_neg he]
    exact (readS_err r v bs e0 _ w h he).mono fun e w' ⟨h1, h2, h3⟩ => ⟨h1, v, h2, h3⟩

set_option maxHeartbeats 400000 in
set_option maxRecDepth 100000 in
theorem rText_any (r : Nat) {rb : Nat} (v : Value) (bs : List Int) (e0 most : Int) (w : World) (h : Rdr w r rb v bs e0) (hB : BOk bs) (hm : most ≤ 9223372036854775807) :
    Calls Tryz.prog 139 #[.pointer (some ⟨r, 0, none⟩), .int .i64 most] w fun e w' => RPost r rb w (rres (.string ByteArray.empty) (gText most bs) bs e0) e w' := by
  have hmf : ∀ (fn : Fn) (first cap : Array Value) (w : World), (Instr.makeFunc fn first cap).run Tryz.prog w = .ok (.func fn first cap) w := fun _ _ _ _ => rfl
  have hr := h.lt
  have hR := hide (readS_meth r v bs e0 182 #[] #[.pointer (some ⟨w.heap.size, 0, none⟩), .pointer (some ⟨w.heap.size + 1, 0, none⟩)] (gText most bs)
    ((w.alloc (.cells #[.pointer (some ⟨r, 0, none⟩)] 99)).alloc (.cells #[.int .i64 most] 3)) ((h.alloc _).alloc _) enters41
    (fun w1 hF h1 => text_part r v bs most ⟨w.heap.size, 0, none⟩ ⟨w.heap.size + 1, 0, none⟩ w1 h1 hB hm
      (by rw [Fr.cell hF (a := ⟨w.heap.size, 0, none⟩) (by simp; omega) (by simp; omega)]; simp) (by rw [Fr.cell hF (a := ⟨w.heap.size + 1, 0, none⟩) (by simp) (by simp; omega)]; simp) (by simp; omega) (by simp; omega)))
  clear h hB
  go_enter Tryz.func139, Tryz.ntmps139
  go_wp2_with fail
  refine (unhide hR).mono ?_
  rintro e w' ⟨rfl, v2, hW, hF⟩
  have HH := hide (And.intro hW hF)
  clear hW hF
  go_wp2
  go_ret
  exact ⟨rfl, v2, (unhide HH).1, (RFr.alloc2 r w _ _).trans (unhide HH).2⟩
end Go.Proofs.YtlogmdldjmkkjaaGreatDoor
