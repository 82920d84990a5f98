/-
  A reader in memory: what is left, and its error; take and one.
-/
import Derived.Test.YtclcebdcdbcpjaaGreatPB
import Derived.WalkKit
import Derived.WalkSpells
import Derived.WalkLawsBesides
import Derived.Defers
import Derived.Recover
import Derived.Laws.Pointers
import Derived.Below
import Derived.Test.YtclcebdcdbcpjaaGreatSame
import Derived.Test.YtclcebdcdbcpjaaGreatDigits
namespace Go.Proofs.YtclcebdcdbcpjaaGreat
open Go.RowKit

theorem ta_nil (w : World) : (Instr.typeAssert .nilIface 20 26 true).run Tryz.prog w = .ok (.tuple #[.int .i64 0, .bool false]) w := by kernel_rfl
theorem ta_err (k : Int) (w : World) : (Instr.typeAssert (.iface 26 (.int .i64 k)) 20 26 true).run Tryz.prog w = .ok (.tuple #[.int .i64 k, .bool true]) w := by kernel_rfl

theorem catch_idle (p q : Addr) (w : World) :
    CallsD Tryz.prog 117 #[.pointer (some p), .pointer (some q)] .returning w fun e u' w' => e = .returned (.tuple #[]) ∧ u' = .returning ∧ w' = w := by
  refine callsD_of_wpS Tryz.func117 rfl fun c₀ cs hu => ?_
  apply wpS_seq
  apply wpS_region
  simp [wpOpsS, go_sem, recoverD, hu, Tryz.ntmps117, Exit.thenS, ta_nil]
  apply wpS_seq
  apply wpS_region
  simp [wpOpsS, go_sem, Exit.thenS]
  refine wpS_cond (t := false) (by simp [Act.eval, Array.replicate]) ?_
  simp only [Bool.false_eq_true, if_false]
  refine wpS_of_wp (wp_skip ?_)
  cases c₀
  simp_all [bodyPostS, results, Tryz.results117]

set_option maxHeartbeats 400000 in
set_option maxRecDepth 100000 in
theorem catch_panicking (r : Nat) (p q : Addr) (u0 : Value) (a0 : Option Addr) (l0 c0 : Nat) (x0 k : Int) (w : World) (hp : w.cell? p = some (.slice a0 l0 c0)) (hq : w.cell? q = some (.pointer (some ⟨r, 0, none⟩)))
    (h0 : w.cell? ⟨r, 0, none⟩ = some u0) (h1 : w.cell? ⟨r, 1, none⟩ = some (.int .i64 x0)) (f0 : w.frozen? ⟨r, 0, none⟩ = false) (f1 : w.frozen? ⟨r, 1, none⟩ = false) :
    CallsD Tryz.prog 117 #[.pointer (some p), .pointer (some q)] (.panicking [{ v := .iface 26 (.int .i64 k), recovered := false }]) w fun e u' w' =>
      e = .returned (.tuple #[]) ∧ u' = .panicking [{ v := .iface 26 (.int .i64 k), recovered := true }] ∧ w' = (w.setCell ⟨r, 0, none⟩ (.slice a0 l0 c0)).setCell ⟨r, 1, none⟩ (.int .i64 k) := by
  refine callsD_of_wpS Tryz.func117 rfl fun c₀ cs hu => ?_
  apply wpS_seq
  apply wpS_region
  simp [wpOpsS, go_sem, recoverD, hu, Tryz.ntmps117, Exit.thenS, ta_err]
  apply wpS_seq
  apply wpS_region
  simp [wpOpsS, go_sem, Exit.thenS]
  refine wpS_cond (t := true) (by simp [Act.eval, Array.replicate]) ?_
  simp only [if_true]
  simp [Array.replicate]
  refine wpS_of_wp ?_
  go_wp2
  exact ⟨rfl, _, rfl, _, by simp [results, Tryz.results117], rfl, rfl, rfl⟩


/-- At block r lies a reader: the bytes bs are left, in the slice v; its error is e. -/
structure Rdr (w : World) (r rb : Nat) (v : Value) (bs : List Int) (e : Int) : Prop where
  c0 : w.cell? ⟨r, 0, none⟩ = some v
  c1 : w.cell? ⟨r, 1, none⟩ = some (.int .i64 e)
  f0 : w.frozen? ⟨r, 0, none⟩ = false
  f1 : w.frozen? ⟨r, 1, none⟩ = false
  rd : Rd w v bs
  ap : ∀ b off len cap, v = .slice (some ⟨b, off, none⟩) len cap → b = rb
  ne : rb ≠ r

/-- All blocks but r are as they were, and there are new ones. -/
def RFr (r : Nat) (w w' : World) : Prop := Fr (fun k => k = r) w w'

theorem Rdr.lt {w : World} {r rb : Nat} {v : Value} {bs : List Int} {e : Int} (h : Rdr w r rb v bs e) : r < w.heap.size := World.block_lt_of_cell? _ _ h.c0
theorem Rdr.len {w : World} {r rb : Nat} {v : Value} {bs : List Int} {e : Int} (h : Rdr w r rb v bs e) : bs.length ≤ maxLen := by
  rcases h.rd with ⟨_, rfl⟩ | ⟨b, off, cap, _, h1, h2, _⟩
  · simp
  · omega

theorem cell_set_same {w : World} {a : Addr} {u v : Value} (h : w.cell? a = some u) : (w.setCell a v).cell? a = some v := World.cell?_setCell_same _ _ _ h
theorem Rdr.keep {w w' : World} {r rb : Nat} {v : Value} {bs : List Int} {e : Int} {S : Nat → Prop} (h : Rdr w r rb v bs e) (f : Fr S w w') (hr : ¬ S r) (hS : ∀ b off len cap, v = .slice (some ⟨b, off, none⟩) len cap → ¬ S b) : Rdr w' r rb v bs e :=
  ⟨(f.cell (a := ⟨r, 0, none⟩) h.lt hr).trans h.c0, (f.cell (a := ⟨r, 1, none⟩) h.lt hr).trans h.c1, (f.frozen (a := ⟨r, 0, none⟩) h.lt hr).trans h.f0, (f.frozen (a := ⟨r, 1, none⟩) h.lt hr).trans h.f1, h.rd.keep f hS, h.ap, h.ne⟩
theorem Rdr.alloc {w : World} {r rb : Nat} {v : Value} {bs : List Int} {e : Int} (h : Rdr w r rb v bs e) (o : Obj) : Rdr (w.alloc o) r rb v bs e :=
  h.keep (S := fun _ => False) ((Fr.refl _ _).alloc o) (by simp) (by simp)

theorem Rdr.shape {w : World} {r rb : Nat} {v : Value} {bs : List Int} {e : Int} (h : Rdr w r rb v bs e) : ∃ a cap, v = .slice a bs.length cap := by
  rcases h.rd with ⟨rfl, rfl⟩ | ⟨b, off, cap, rfl, _⟩
  · exact ⟨none, 0, rfl⟩
  · exact ⟨_, cap, rfl⟩

def errPanic (k : Int) : Ending := .panicked [{ v := .iface 26 (.int .i64 k), recovered := false }]

set_option maxHeartbeats 400000 in
set_option maxRecDepth 100000 in
theorem take_neg (r : Nat) (n : Int) (w : World) (hn : n < 0) :
    Calls Tryz.prog 64 #[.pointer (some ⟨r, 0, none⟩), .int .i64 n] w fun e w' => e = errPanic 1 ∧ w' = w := by
  go_enter Tryz.func64, Tryz.ntmps64
  go_wp2
  exact ⟨rfl, rfl, rfl⟩

set_option maxHeartbeats 400000 in
set_option maxRecDepth 100000 in
theorem take_short (r : Nat) {rb : Nat} (n : Int) (v : Value) (bs : List Int) (e0 : Int) (w : World) (h : Rdr w r rb v bs e0) (hn : (bs.length : Int) < n) :
    Calls Tryz.prog 64 #[.pointer (some ⟨r, 0, none⟩), .int .i64 n] w fun e w' => e = errPanic 2 ∧ w' = w := by
  obtain ⟨a, cap, rfl⟩ := h.shape
  have c0 := h.c0
  have hn0 : ¬ n < 0 := by omega
  clear h
  go_enter Tryz.func64, Tryz.ntmps64
  go_wp2
  exact ⟨rfl, rfl, rfl⟩

set_option maxHeartbeats 400000 in
set_option maxRecDepth 100000 in
theorem take_some (r b off cap len n : Nat) (w : World) (c0 : w.cell? ⟨r, 0, none⟩ = some (.slice (some ⟨b, off, none⟩) len cap)) (f0 : w.frozen? ⟨r, 0, none⟩ = false) (hn : n ≤ len) (hl : len ≤ cap) (_hm : cap ≤ 9223372036854775807) :
    Calls Tryz.prog 64 #[.pointer (some ⟨r, 0, none⟩), .int .i64 n] w fun e w' => e = .returned (.slice (some ⟨b, off, none⟩) n cap) ∧
      ∃ o', w' = w.setCell ⟨r, 0, none⟩ (.slice (some ⟨b, o', none⟩) (len - n) (cap - n)) ∧ (len - n = 0 ∨ o' = off + n) := by
  have hn0 : ¬ ((n : Int) < 0) := by omega
  by_cases hcn : cap = n
  · go_enter Tryz.func64, Tryz.ntmps64
    go_wp2
    go_ret
    exact ⟨by first | rfl | simp [hcn], _, rfl, .inl (by omega)⟩
  · go_enter Tryz.func64, Tryz.ntmps64
    go_wp2
    go_ret
    exact ⟨rfl, _, rfl, .inr rfl⟩

set_option maxHeartbeats 400000 in
set_option maxRecDepth 100000 in
theorem take_nil (r : Nat) (w : World) (c0 : w.cell? ⟨r, 0, none⟩ = some (.slice none 0 0)) (f0 : w.frozen? ⟨r, 0, none⟩ = false) :
    Calls Tryz.prog 64 #[.pointer (some ⟨r, 0, none⟩), .int .i64 0] w fun e w' => e = .returned (.slice none 0 0) ∧ w' = w.setCell ⟨r, 0, none⟩ (.slice none 0 0) := by
  go_enter Tryz.func64, Tryz.ntmps64
  go_wp2
  go_ret
  exact ⟨rfl, rfl⟩

theorem RFr.refl (r : Nat) (w : World) : RFr r w w := Fr.refl _ _
theorem RFr.trans {r : Nat} {a b c : World} (h : RFr r a b) (k : RFr r b c) : RFr r a c := Fr.trans h k

/-- Behind the store of what is left. -/
theorem Rdr.stored {w : World} {r rb : Nat} {v v' : Value} {bs bs' : List Int} {e : Int} (h : Rdr w r rb v bs e) (hR : Rd w v' bs') (ha : ∀ b off len cap, v' = .slice (some ⟨b, off, none⟩) len cap → b = rb) :
    Rdr (w.setCell ⟨r, 0, none⟩ v') r rb v' bs' e ∧ RFr r w (w.setCell ⟨r, 0, none⟩ v') := by
  have hf : RFr r w (w.setCell ⟨r, 0, none⟩ v') := Fr.setCell (S := fun k => k = r) (Fr.refl _ w) ⟨r, 0, none⟩ (.inr rfl) v'
  refine ⟨⟨World.cell?_setCell_same _ _ _ h.c0, ?_, by rw [World.frozen?_setCell]; exact h.f0, by rw [World.frozen?_setCell]; exact h.f1, ?_, ha, h.ne⟩, hf⟩
  · rw [World.cell?_setCell_other _ _ _ _ (by simp)]; exact h.c1
  · exact hR.keep hf (fun b off len cap hv e => h.ne ((ha b off len cap hv).symm.trans e))

/-- take, of so many bytes as are left or fewer. -/
theorem take_ok (r : Nat) {rb : Nat} (n : Nat) (v : Value) (bs : List Int) (e0 : Int) (w : World) (h : Rdr w r rb v bs e0) (hn : n ≤ bs.length) :
    Calls Tryz.prog 64 #[.pointer (some ⟨r, 0, none⟩), .int .i64 n] w fun e w' => ∃ v1 v2, e = .returned v1 ∧ Rd w' v1 (bs.take n) ∧ (∀ b off len cap, v1 = .slice (some ⟨b, off, none⟩) len cap → b = rb) ∧ Rdr w' r rb v2 (bs.drop n) e0 ∧ RFr r w w' := by
  rcases h.rd with ⟨rfl, rfl⟩ | ⟨b, off, cap, rfl, h1, h2, h3, h4⟩
  · obtain rfl : n = 0 := by simpa using hn
    refine (take_nil r w h.c0 h.f0).mono ?_
    rintro e w' ⟨rfl, rfl⟩
    have hs := h.stored (v' := .slice none 0 0) (bs' := []) (.inl ⟨rfl, rfl⟩) (by simp)
    exact ⟨_, _, rfl, .inl ⟨rfl, rfl⟩, by simp, hs.1, hs.2⟩
  · refine (take_some r b off cap bs.length n w h.c0 h.f0 hn h1 (by unfold maxLen at h2; omega)).mono ?_
    rintro e w' ⟨rfl, o', rfl, ho⟩
    have hb := h.ap b off _ cap rfl
    have hR1 : Rd w (.slice (some ⟨b, off, none⟩) n cap) (bs.take n) := by
      refine .inr ⟨b, off, cap, by rw [List.length_take, Nat.min_eq_left hn], by rw [List.length_take]; omega, h2, h3, fun i hi => ?_⟩
      rw [List.length_take] at hi
      rw [h4 i (by omega)]
      simp [List.getD, show i < n from by omega]
    have hR2 : Rd w (.slice (some ⟨b, o', none⟩) (bs.length - n) (cap - n)) (bs.drop n) := by
      refine .inr ⟨b, o', cap - n, by rw [List.length_drop], by rw [List.length_drop]; omega, by omega, h3, fun i hi => ?_⟩
      rw [List.length_drop] at hi
      rcases ho with ho | rfl
      · omega
      · rw [Nat.add_assoc, h4 (n + i) (by omega)]
        simp [List.getD, List.getElem?_drop]
    have hs := h.stored hR2 (by intro b' off' len' cap' hv; simp at hv; rw [← hv.1.1]; exact hb)
    refine ⟨_, _, rfl, hR1.keep hs.2 ?_, ?_, hs.1, hs.2⟩
    · intro b' off' len' cap' hv e; simp at hv; exact h.ne (hb.symm.trans (hv.1.1.trans e))
    · intro b' off' len' cap' hv; simp at hv; rw [← hv.1.1]; exact hb

set_option maxHeartbeats 400000 in
set_option maxRecDepth 100000 in
/-- one, of no bytes. -/
theorem one_short (r : Nat) {rb : Nat} (v : Value) (e0 : Int) (w : World) (h : Rdr w r rb v [] e0) :
    Calls Tryz.prog 105 #[.pointer (some ⟨r, 0, none⟩)] w fun e w' => e = errPanic 2 ∧ w' = w := by
  have hT := hide (take_short r 1 v [] e0 w h (by simp))
  clear h
  go_enter Tryz.func105, Tryz.ntmps105
  go_wp2_with fail
  refine (unhide hT).mono ?_
  rintro e w' ⟨rfl, rfl⟩
  exact ⟨rfl, rfl, rfl⟩

set_option maxHeartbeats 400000 in
set_option maxRecDepth 100000 in
/-- one. -/
theorem one_ok (r : Nat) {rb : Nat} (v : Value) (b : Int) (bs : List Int) (e0 : Int) (w : World) (h : Rdr w r rb v (b :: bs) e0) :
    Calls Tryz.prog 105 #[.pointer (some ⟨r, 0, none⟩)] w fun e w' => e = .returned (.int .u8 b) ∧ ∃ v2, Rdr w' r rb v2 bs e0 ∧ RFr r w w' := by
  have hT := hide (take_ok r 1 v (b :: bs) e0 w h (by simp))
  clear h
  go_enter Tryz.func105, Tryz.ntmps105
  go_wp2_with fail
  refine (unhide hT).mono ?_
  rintro e w' ⟨v1, v2, rfl, hR, _, hW, hF⟩
  rcases hR with ⟨_, hR⟩ | ⟨g, off, cap, rfl, h1, h2, h3, h4⟩
  · simp at hR
  · have hc := h4 0 (by simp)
    have hl : ((b :: bs).take 1).length = 1 := by simp
    rw [hl] at h1 ⊢
    have hc' : w'.cell? ⟨g, off, none⟩ = some (.int .u8 b) := by simpa using hc
    have HW := hide hW
    have HF := hide hF
    clear h4 hc hl h3 h2 hW hF hT
    go_wp2
    go_ret
    exact ⟨rfl, v2, unhide HW, unhide HF⟩
end Go.Proofs.YtclcebdcdbcpjaaGreat
