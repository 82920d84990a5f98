/-
  The document's reader: bytes, a place, the first error.
-/
import Derived.Test.YtaldacjeeccbhaaBackMath2
namespace Go.Proofs.Ytaldacjeeccbhaa
open Go.RowKit

structure RefR (w : World) (q qb : Nat) (v : Value) (B : List Int) (pl : Nat) (e : Int) : Prop where
  c0 : w.cell? ⟨q, 0, none⟩ = some v
  c1 : w.cell? ⟨q, 1, none⟩ = some (.int .i64 (pl : Int))
  c2 : w.cell? ⟨q, 2, none⟩ = some (.int .i64 e)
  f1 : w.frozen? ⟨q, 1, none⟩ = false
  f2 : w.frozen? ⟨q, 2, none⟩ = false
  rd : Rd w v B
  ap : ∀ b off len cap, v = .slice (some ⟨b, off, none⟩) len cap → b = qb
  ne : qb ≠ q
  le : pl ≤ B.length

theorem RefR.lt {w : World} {q qb : Nat} {v : Value} {B : List Int} {pl : Nat} {e : Int} (h : RefR w q qb v B pl e) : q < w.heap.size := World.block_lt_of_cell? _ _ h.c0
theorem RefR.keep {w w' : World} {q qb : Nat} {v : Value} {B : List Int} {pl : Nat} {e : Int} {S : Nat → Prop} (h : RefR w q qb v B pl e) (f : Fr S w w') (hr : ¬ S q) (hS : ∀ b off len cap, v = .slice (some ⟨b, off, none⟩) len cap → ¬ S b) : RefR w' q qb v B pl e :=
  ⟨(f.cell h.lt hr).trans h.c0, (f.cell h.lt hr).trans h.c1, (f.cell h.lt hr).trans h.c2, (f.frozen h.lt hr).trans h.f1, (f.frozen h.lt hr).trans h.f2, h.rd.keep f hS, h.ap, h.ne, h.le⟩
theorem RefR.drewN {w : World} {q qb : Nat} {v : Value} {B : List Int} {pl : Nat} {e : Int} (h : RefR w q qb v B pl e) (n : Nat) : RefR (w.drewN n) q qb v B pl e :=
  h.keep (S := fun _ => False) (Fr.drewN n) (by simp) (by simp)
theorem RefR.err {w : World} {q qb : Nat} {v : Value} {B : List Int} {pl : Nat} {e : Int} (h : RefR w q qb v B pl e) (k : Int) :
    RefR (w.setCell ⟨q, 2, none⟩ (.int .i64 k)) q qb v B pl k ∧ RFr q w (w.setCell ⟨q, 2, none⟩ (.int .i64 k)) := by
  have hf : RFr q w (w.setCell ⟨q, 2, none⟩ (.int .i64 k)) := Fr.setCell (S := fun k => k = q) (Fr.refl _ w) ⟨q, 2, none⟩ (.inr rfl) _
  refine ⟨⟨?_, ?_, World.cell?_setCell_same _ _ _ h.c2, by rw [World.frozen?_setCell]; exact h.f1, by rw [World.frozen?_setCell]; exact h.f2, h.rd.keep hf (fun b off len cap hv e => h.ne ((h.ap b off len cap hv).symm.trans e)), h.ap, h.ne, h.le⟩, hf⟩
  · rw [World.cell?_setCell_other _ _ _ _ (by simp)]; exact h.c0
  · rw [World.cell?_setCell_other _ _ _ _ (by simp)]; exact h.c1
theorem RefR.move {w : World} {q qb : Nat} {v : Value} {B : List Int} {pl : Nat} {e : Int} (h : RefR w q qb v B pl e) (k : Nat) (hk : k ≤ B.length) :
    RefR (w.setCell ⟨q, 1, none⟩ (.int .i64 (k : Int))) q qb v B k e ∧ RFr q w (w.setCell ⟨q, 1, none⟩ (.int .i64 (k : Int))) := by
  have hf : RFr q w (w.setCell ⟨q, 1, none⟩ (.int .i64 (k : Int))) := Fr.setCell (S := fun k => k = q) (Fr.refl _ w) ⟨q, 1, none⟩ (.inr rfl) _
  refine ⟨⟨?_, World.cell?_setCell_same _ _ _ h.c1, ?_, by rw [World.frozen?_setCell]; exact h.f1, by rw [World.frozen?_setCell]; exact h.f2, h.rd.keep hf (fun b off len cap hv e => h.ne ((h.ap b off len cap hv).symm.trans e)), h.ap, h.ne, hk⟩, hf⟩
  · rw [World.cell?_setCell_other _ _ _ _ (by simp)]; exact h.c0
  · rw [World.cell?_setCell_other _ _ _ _ (by simp)]; exact h.c2

/-- What a call of it comes to. -/
def RefPost (q qb : Nat) (v : Value) (B : List Int) (w : World) (p : Value × List Int × Int) (e : Ending) (w' : World) : Prop :=
  e = .returned p.1 ∧ ∃ pl, RefR w' q qb v B pl p.2.2 ∧ B.drop pl = p.2.1 ∧ RFr q w w'
theorem rres_bad (zero : Value) (o : Except Int (Value × List Int)) (bs : List Int) (e0 : Int) (h : e0 ≠ 0) : rres zero o bs e0 = (zero, bs, e0) := if_neg h
theorem rres_error (zero : Value) (k : Int) (bs : List Int) : rres zero (.error k) bs 0 = (zero, bs, k) := rfl
theorem drop_getD0 (bs : List Int) (j : Nat) (hj : j < bs.length) : bs.drop j = bs.getD j 0 :: bs.drop (j + 1) := by
  rw [List.drop_eq_getElem_cons hj]; simp [List.getD, hj]

set_option maxHeartbeats 800000 in
set_option maxRecDepth 100000 in
theorem refByte_any (q : Nat) {qb : Nat} (v : Value) (B : List Int) (pl : Nat) (e0 : Int) (w : World) (h : RefR w q qb v B pl e0) (hN : B.length ≤ 140737488355328) :
    Calls Try.prog 63 #[.pointer (some ⟨q, 0, none⟩)] w fun e w' => RefPost q qb v B w (rres (.int .u8 0) (gByte (B.drop pl)) (B.drop pl) e0) e w' := by
  obtain ⟨a, cap, rfl⟩ := h.rd.shapeR
  have c0 := h.c0
  have c1 := h.c1
  have c2 := h.c2
  have f1 := h.f1
  have f2 := h.f2
  by_cases he : e0 = 0
  · subst he
    by_cases hl : pl < B.length
    · rw [drop_getD0 B pl hl, gByte, rres_ok]
      obtain ⟨cb, co, rfl, hcb, hc⟩ := h.rd.at pl hl
      have HM := hide (fun n => (h.drewN n).move (pl + 1) hl)
      clear h
      obtain ⟨N, hNN⟩ : ∃ N, Hid (B.length = N) := ⟨_, rfl⟩
      have i0 : (0 : Int) ≤ (pl : Int) := by omega
      have i1 : (pl : Int) < (N : Int) := by rw [← unhide hNN]; omega
      have i2 : decide ((N : Int) ≤ (pl : Int)) = false := decide_eq_false (by omega)
      rw [unhide hNN] at c0 hN hl HM ⊢
      generalize B.getD pl 0 = b at hc ⊢
      go_enter Try.func63, Try.ntmps63
      go_wp2
      go_quiet (fail)
      go_wp2
      go_quiet (fail)
      go_wp2
      go_ret
      exact ⟨rfl, pl + 1, (unhide HM _).1, rfl, (Fr.drewN _).trans (unhide HM _).2⟩
    · have hpl : pl = B.length := by have := h.le; omega
      subst hpl
      rw [List.drop_length, gByte, rres_error]
      have HM := hide (fun n => (h.drewN n).err 2)
      have HD : Hid (B.drop B.length = []) := List.drop_length
      clear h
      generalize B.length = N at *
      go_enter Try.func63, Try.ntmps63
      go_wp2
      go_quiet (fail)
      go_wp2
      go_ret
      exact ⟨rfl, N, (unhide HM _).1, unhide HD, (Fr.drewN _).trans (unhide HM _).2⟩
  · rw [rres_bad _ _ _ _ he]
    have q0 : (e0 != 0) = true := by rw [bne_iff_ne]; exact he
    have H := hide h
    clear h he
    go_enter Try.func63, Try.ntmps63
    go_wp2
    go_ret
    exact ⟨rfl, pl, unhide H, rfl, RFr.refl _ _⟩
end Go.Proofs.Ytaldacjeeccbhaa
