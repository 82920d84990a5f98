/-
  The document reads a spot: the state on the way.
-/
import Derived.Test.YtaldacjeeccbhaaD7
import Derived.Test.YtaldacjeeccbhaaRef4
namespace Go.Proofs.Ytaldacjeeccbhaa
open Go.RowKit
set_option linter.unusedVariables false
set_option linter.unusedSimpArgs false
def moK (k : Nat) : Int := if k = 0 then 9223372036854775807 else 1023
def RfP (q qb : Nat) (v : Value) (B : List Int) (w : World) (o : Except Int (Int × List Int)) (e : Ending) (w' : World) : Prop := RFr q w w' ∧
  match o with
  | .error k => k ≠ 0 ∧ e = .returned (.tuple #[.int .u64 0, .int .i64 k]) ∧ ∃ pl ee, RefR w' q qb v B pl ee
  | .ok (x, t) => 0 ≤ x ∧ x ≤ 9223372036854775807 ∧ e = .returned (.tuple #[.int .u64 x, .int .i64 0]) ∧ ∃ pl, RefR w' q qb v B pl 0 ∧ B.drop pl = t
/-- The same, by the number itself. -/
theorem rdF_num {k : Nat} (hk : k < 3) {bs : List Int} {n : Nat} {t : List Int} (hB : BOk bs) (hu : unum 0 0 bs = .ok (n, t)) : rdF k bs = if n = 0 then .error 4 else if moK k < (n : Int) then .error 1 else .ok ((n : Int), t) := by
  have hn := (unum_lt 0 0 bs n t (by omega) (by omega) hB hu).1
  unfold rdF
  rw [hu]
  dsimp only
  have hf : fX k n = IntKind.i64.wrap (n : Int) := by unfold fX; rw [if_neg (by omega)]
  have hw := IntKind.wrap_i64 (n : Int)
  rw [hf]
  by_cases h0 : n = 0
  · subst h0
    rfl
  · rw [if_neg h0, if_neg (by rw [hw]; omega)]
    by_cases h1 : moK k < (n : Int)
    · rw [if_pos h1, if_neg]
      unfold fB
      unfold moK at h1
      by_cases hk0 : k = 0
      · rw [if_pos hk0] at h1 ⊢
        rw [hw]
        simp
        omega
      · rw [if_neg hk0] at h1 ⊢
        rw [if_neg (by omega), hw]
        simp
        omega
    · rw [if_neg h1, if_pos]
      · have : IntKind.i64.wrap (n : Int) = (n : Int) := by unfold moK at h1; rw [hw]; split at h1 <;> omega
        rw [this]
      · unfold fB
        unfold moK at h1
        by_cases hk0 : k = 0
        · rw [if_pos hk0] at h1 ⊢
          rw [hw]
          exact decide_eq_true (by omega)
        · rw [if_neg hk0] at h1 ⊢
          rw [if_neg (by omega), hw]
          exact decide_eq_true (by omega)
set_option maxRecDepth 100000 in
set_option maxHeartbeats 3200000 in
theorem refField_any {k : Nat} (hk : k < 3) (q : Nat) {qb : Nat} (v : Value) (B : List Int) (pl : Nat) (w : World) (h : RefR w q qb v B pl 0) (hB : BOk B) (hN : B.length ≤ 140737488355328) :
    Calls Try.prog 64 #[.pointer (some ⟨q, 0, none⟩), .int .u64 (moK k)] w (RfP q qb v B w (rdF k (B.drop pl))) := by
  have HRU := hide (refUint_any q v B pl 0 w h hB hN)
  have hBd : BOk (B.drop pl) := fun x hx => hB x (List.mem_of_mem_drop hx)
  have hmo : 0 ≤ moK k ∧ moK k ≤ 9223372036854775807 := by unfold moK; split <;> omega
  cases hu : unum 0 0 (B.drop pl) with
  | error e0 =>
    have he0 := unum_err 0 0 _ e0 hu
    have HO : Hid (rdF k (B.drop pl) = .error e0) := by unfold Hid rdF; rw [hu]
    rw [hu] at HRU
    simp only [gNum, rres, ↓reduceIte] at HRU
    have dk : (e0 != 0) = true := by simpa using he0
    clear h hu
    go_enter Try.func64, Try.ntmps64
    go_wp2_with fail
    refine (unhide HRU).mono ?_
    rintro e w1 ⟨rfl, p1, hr1, hp1, f1⟩
    have c2 := hr1.c2
    have hq1 := hr1.lt
    have HF1 := hide f1
    have HR1 := hide hr1
    clear HRU hr1 f1
    go_wp2_with fail
    go_quiet (fail)
    obtain ⟨X, hX⟩ : ∃ X, Hid (w1.drewN nq = X) := ⟨_, hide rfl⟩
    have HFX : Hid (RFr q w X) := by rw [← unhide hX]; exact (unhide HF1).trans (Fr.drewN nq)
    have HRX : Hid (RefR X q qb v B p1 e0) := by rw [← unhide hX]; exact (unhide HR1).drewN nq
    rw [unhide hX]
    clear hX c2 hq1
    go_wp2_with fail
    go_ret2
    show RfP q qb v B w (rdF k (B.drop pl)) _ _
    rw [unhide HO]
    exact ⟨unhide HFX, he0, rfl, _, _, unhide HRX⟩
  | ok p =>
    obtain ⟨n, t⟩ := p
    have HO := hide (rdF_num hk hBd hu)
    have hn := (unum_lt 0 0 _ n t (by omega) (by omega) hBd hu).1
    rw [hu] at HRU
    simp only [gNum, rres, ↓reduceIte] at HRU
    obtain ⟨M, hM⟩ : ∃ M, Hid (moK k = M) := ⟨_, hide rfl⟩
    rw [unhide hM] at HO hmo ⊢
    clear h hu
    by_cases h0 : n = 0
    · rw [if_pos h0] at HO
      subst h0
      go_enter Try.func64, Try.ntmps64
      go_wp2_with fail
      refine (unhide HRU).mono ?_
      rintro e w1 ⟨rfl, p1, hr1, hp1, f1⟩
      have c2 := hr1.c2
      have hq1 := hr1.lt
      have HF1 := hide f1
      have HR1 := hide hr1
      clear HRU hr1 f1
      go_wp2_with fail
      go_ret2
      show RfP q qb v B w (rdF k (B.drop pl)) _ _
      rw [unhide HO]
      exact ⟨unhide HF1, by decide, rfl, _, _, unhide HR1⟩
    · rw [if_neg h0] at HO
      have d0 : ((n : Int) == 0) = false := by simp; omega
      by_cases h1 : M < (n : Int)
      · rw [if_pos h1] at HO
        have d1 : decide ((n : Int) > M) = true := decide_eq_true h1
        go_enter Try.func64, Try.ntmps64
        go_wp2_with fail
        refine (unhide HRU).mono ?_
        rintro e w1 ⟨rfl, p1, hr1, hp1, f1⟩
        have c2 := hr1.c2
        have hq1 := hr1.lt
        have HF1 := hide f1
        have HR1 := hide hr1
        clear HRU hr1 f1
        go_wp2_with fail
        go_ret2
        show RfP q qb v B w (rdF k (B.drop pl)) _ _
        rw [unhide HO]
        exact ⟨unhide HF1, by decide, rfl, _, _, unhide HR1⟩
      · rw [if_neg h1] at HO
        have d1 : decide ((n : Int) > M) = false := decide_eq_false h1
        go_enter Try.func64, Try.ntmps64
        go_wp2_with fail
        refine (unhide HRU).mono ?_
        rintro e w1 ⟨rfl, p1, hr1, hp1, f1⟩
        have c2 := hr1.c2
        have hq1 := hr1.lt
        have HF1 := hide f1
        have HR1 := hide hr1
        clear HRU hr1 f1
        go_wp2_with fail
        go_ret2
        show RfP q qb v B w (rdF k (B.drop pl)) _ _
        rw [unhide HO]
        exact ⟨unhide HF1, by omega, by omega, rfl, p1, unhide HR1, hp1⟩

set_option linter.unusedVariables false
set_option linter.unusedSimpArgs false
structure RQ (w : World) (q qb : Nat) (v : Value) (B : List Int) (s : Q4) (pl : Nat) (e : Int) (wr : World) : Prop where
  fr : Fr (fun k => k = q) w wr
  b2 : wr.heap[w.heap.size]? = some (.cells #[.int .i64 0, .int .u16 0, .int .u16 0, .int .i64 0] 55)
  b4 : wr.heap[w.heap.size + 1]? = some (.cells #[.int .i64 s.a, .int .u16 s.b, .int .u16 s.c, .int .i64 s.d] 55)
  rd : RefR wr q qb v B pl e
  hq : q < w.heap.size
  hb : qb < w.heap.size
section
variable {w wr w' : World} {q qb : Nat} {v : Value} {B : List Int} {s s' : Q4} {pl pl' : Nat} {e e' : Int}
theorem RQ.read (h : RQ w q qb v B s pl e wr) (f : RFr q wr w') (hr : RefR w' q qb v B pl' e') : RQ w q qb v B s pl' e' w' := by
  have h1 := (blk_cells h.b2).2.2
  have h2 := (blk_cells h.b4).2.2
  have h3 := h.hq
  exact ⟨h.fr.trans f, (f.block _ h1 (by show ¬ w.heap.size = q; omega)).trans h.b2, (f.block _ h2 (by show ¬ w.heap.size + 1 = q; omega)).trans h.b4, hr, h.hq, h.hb⟩
theorem RQ.set (h : RQ w q qb v B s pl e wr) (f : Fr (fun k => k = w.heap.size + 1) wr w') (h4 : w'.heap[w.heap.size + 1]? = some (.cells #[.int .i64 s'.a, .int .u16 s'.b, .int .u16 s'.c, .int .i64 s'.d] 55)) : RQ w q qb v B s' pl e w' := by
  have h1 := (blk_cells h.b2).2.2
  have h3 := h.hq
  have h5 := h.hb
  refine ⟨h.fr.comp f (fun i hi e => by omega), (f.block _ h1 (by show ¬ w.heap.size = _; omega)).trans h.b2, h4, h.rd.keep f (by show ¬ q = _; omega) (fun b off len cap e => ?_), h.hq, h.hb⟩
  have := h.rd.ap b off len cap e
  show ¬ b = _
  omega
theorem RQ.put0 (h : RQ w q qb v B s pl e wr) (x : Int) : RQ w q qb v B { s with a := x } pl e (wr.setCell ⟨w.heap.size + 1, 0, none⟩ (.int .i64 x)) :=
  h.set (Fr.setCell (S := fun k => k = w.heap.size + 1) (Fr.refl _ wr) ⟨w.heap.size + 1, 0, none⟩ (.inr rfl) _) (by rw [setCell_block h.b4]; rfl)
theorem RQ.put1 (h : RQ w q qb v B s pl e wr) (x : Int) : RQ w q qb v B { s with b := x } pl e (wr.setCell ⟨w.heap.size + 1, 1, none⟩ (.int .u16 x)) :=
  h.set (Fr.setCell (S := fun k => k = w.heap.size + 1) (Fr.refl _ wr) ⟨w.heap.size + 1, 1, none⟩ (.inr rfl) _) (by rw [setCell_block h.b4]; rfl)
theorem RQ.put2 (h : RQ w q qb v B s pl e wr) (x : Int) : RQ w q qb v B { s with c := x } pl e (wr.setCell ⟨w.heap.size + 1, 2, none⟩ (.int .u16 x)) :=
  h.set (Fr.setCell (S := fun k => k = w.heap.size + 1) (Fr.refl _ wr) ⟨w.heap.size + 1, 2, none⟩ (.inr rfl) _) (by rw [setCell_block h.b4]; rfl)
theorem RQ.put3 (h : RQ w q qb v B s pl e wr) (x : Int) : RQ w q qb v B { s with d := x } pl e (wr.setCell ⟨w.heap.size + 1, 3, none⟩ (.int .i64 x)) :=
  h.set (Fr.setCell (S := fun k => k = w.heap.size + 1) (Fr.refl _ wr) ⟨w.heap.size + 1, 3, none⟩ (.inr rfl) _) (by rw [setCell_block h.b4]; rfl)
theorem RQ.start (h : RefR w q qb v B pl e) (hb : qb < w.heap.size) : RQ w q qb v B q4Z pl e ((w.alloc (.cells #[.int .i64 0, .int .u16 0, .int .u16 0, .int .i64 0] 55)).alloc (.cells #[.int .i64 0, .int .u16 0, .int .u16 0, .int .i64 0] 55)) := by
  have hb2 := bl_two w (.cells #[.int .i64 0, .int .u16 0, .int .u16 0, .int .i64 0] 55) (.cells #[.int .i64 0, .int .u16 0, .int .u16 0, .int .i64 0] 55)
  refine ⟨Fr.of_below hb2, ?_, ?_, h.keep (S := fun _ => False) (Fr.of_below hb2) (by simp) (by simp), h.lt, hb⟩
  · rw [Below.heap_alloc _ _ _ (by simp)]; exact heap_alloc_new w _
  · have := heap_alloc_new (w.alloc (.cells #[.int .i64 0, .int .u16 0, .int .u16 0, .int .i64 0] 55)) (.cells #[.int .i64 0, .int .u16 0, .int .u16 0, .int .i64 0] 55)
    rw [World.size_alloc] at this
    exact this
theorem RQ.drew (h : RQ w q qb v B s pl e wr) : RQ w q qb v B s pl e wr.drew := ⟨h.fr.drew, h.b2, h.b4, h.rd.keep (S := fun _ => False) (Fr.refl _ wr).drew (by simp) (by simp), h.hq, h.hb⟩
/-- What the boxes hold. -/
theorem RQ.cells (h : RQ w q qb v B s pl e wr) : (wr.cell? ⟨w.heap.size + 1, 0, none⟩ = some (.int .i64 s.a) ∧ wr.cell? ⟨w.heap.size + 1, 1, none⟩ = some (.int .u16 s.b) ∧ wr.cell? ⟨w.heap.size + 1, 2, none⟩ = some (.int .u16 s.c) ∧ wr.cell? ⟨w.heap.size + 1, 3, none⟩ = some (.int .i64 s.d)) ∧ (∀ j, wr.frozen? ⟨w.heap.size + 1, j, none⟩ = false) ∧ w.heap.size + 1 < wr.heap.size ∧ (wr.cell? ⟨w.heap.size, 0, none⟩ = some (.int .i64 0) ∧ wr.cell? ⟨w.heap.size, 1, none⟩ = some (.int .u16 0) ∧ wr.cell? ⟨w.heap.size, 2, none⟩ = some (.int .u16 0) ∧ wr.cell? ⟨w.heap.size, 3, none⟩ = some (.int .i64 0)) ∧ (∀ j, wr.frozen? ⟨w.heap.size, j, none⟩ = false) ∧ w.heap.size < wr.heap.size ∧ wr.cell? ⟨q, 2, none⟩ = some (.int .i64 e) ∧ q < wr.heap.size := by
  obtain ⟨c1, c2, c3⟩ := blk_cells h.b4
  obtain ⟨d1, d2, d3⟩ := blk_cells h.b2
  exact ⟨⟨c1 0, c1 1, c1 2, c1 3⟩, c2, c3, ⟨d1 0, d1 1, d1 2, d1 3⟩, d2, d3, h.rd.c2, h.rd.lt⟩
/-- The answer is laid into its box. -/
theorem RQ.fin (h : RQ w q qb v B s pl e wr) : ∃ Z, Hid ((((wr.setCell ⟨w.heap.size, 0, none⟩ (.int .i64 s.a)).setCell ⟨w.heap.size, 1, none⟩ (.int .u16 s.b)).setCell ⟨w.heap.size, 2, none⟩ (.int .u16 s.c)).setCell ⟨w.heap.size, 3, none⟩ (.int .i64 s.d) = Z) ∧ Fr (fun k => k = q) w Z ∧ RefR Z q qb v B pl e ∧ (Z.cell? ⟨w.heap.size, 0, none⟩ = some (.int .i64 s.a) ∧ Z.cell? ⟨w.heap.size, 1, none⟩ = some (.int .u16 s.b) ∧ Z.cell? ⟨w.heap.size, 2, none⟩ = some (.int .u16 s.c) ∧ Z.cell? ⟨w.heap.size, 3, none⟩ = some (.int .i64 s.d)) ∧ (Z.cell? ⟨w.heap.size + 1, 0, none⟩ = some (.int .i64 s.a) ∧ Z.cell? ⟨w.heap.size + 1, 1, none⟩ = some (.int .u16 s.b) ∧ Z.cell? ⟨w.heap.size + 1, 2, none⟩ = some (.int .u16 s.c) ∧ Z.cell? ⟨w.heap.size + 1, 3, none⟩ = some (.int .i64 s.d)) ∧ w.heap.size < Z.heap.size := by
  obtain ⟨q1, q2⟩ := box_four h.b2 (.int .i64 s.a) (.int .u16 s.b) (.int .u16 s.c) (.int .i64 s.d)
  have h1 := (blk_cells h.b4).2.2
  have h3 := h.hq
  have h5 := h.hb
  have q4 := (q2.block (w.heap.size + 1) h1 (by show ¬ _ = w.heap.size; omega)).trans h.b4
  obtain ⟨c1, c2, c3⟩ := blk_cells q1
  obtain ⟨d1, d2, d3⟩ := blk_cells q4
  refine ⟨_, hide rfl, h.fr.comp q2 (fun i hi e => by omega), h.rd.keep q2 (by show ¬ q = _; omega) (fun b off len cap e => ?_), ⟨c1 0, c1 1, c1 2, c1 3⟩, ⟨d1 0, d1 1, d1 2, d1 3⟩, c3⟩
  have := h.rd.ap b off len cap e
  show ¬ b = _
  omega
end
def RsP (q qb : Nat) (v : Value) (B : List Int) (w : World) (o : Except Int (Q4 × List Int)) (e : Ending) (w' : World) : Prop := RFr q w w' ∧
  match o with
  | .error k => k ≠ 0 ∧ ∃ c a b d, e = .returned (.tuple #[.agg #[.int .i64 c, .int .u16 a, .int .u16 b, .int .i64 d], .int .i64 k])
  | .ok (s, t) => e = .returned (.tuple #[spV (spQ s), .int .i64 0]) ∧ ∃ pl, RefR w' q qb v B pl 0 ∧ B.drop pl = t
theorem rdG_set {fl : Int} {n k : Nat} (hk : k = 3 - n) (hb : btB fl k = true) (s : Q4) (bs : List Int) : (∀ e, rdF k bs = .error e → rdG fl (n + 1) s bs = .error e) ∧ (∀ x t, rdF k bs = .ok (x, t) → rdG fl (n + 1) s bs = rdG fl n (s.put k x) t) := by
  subst hk
  refine ⟨fun e h => ?_, fun x t h => ?_⟩
  · rw [rdG, if_pos hb, h]
  · rw [rdG, if_pos hb, h]
theorem rdG_unset {fl : Int} {n k : Nat} (hk : k = 3 - n) (hb : btB fl k = false) (s : Q4) (bs : List Int) : rdG fl (n + 1) s bs = rdG fl n s bs := by
  subst hk
  rw [rdG, if_neg (by rw [hb]; decide)]
theorem rdF3_num {bs t : List Int} {n : Nat} (hu : unum 0 0 bs = .ok (n, t)) : rdF 3 bs = if unfoldI n = 0 then .error 4 else if -1 ≤ unfoldI n ∧ unfoldI n ≤ 128 then .ok (unfoldI n, t) else .error 1 := by
  unfold rdF
  rw [hu]
  dsimp only
  rw [show fX 3 n = unfoldI n from rfl]
  by_cases h0 : unfoldI n = 0
  · rw [if_pos h0, if_pos h0]
  · rw [if_neg h0, if_neg h0]
    by_cases h1 : -1 ≤ unfoldI n ∧ unfoldI n ≤ 128
    · rw [if_pos h1, if_pos]
      unfold fB
      rw [if_neg (by omega), if_pos rfl]
      exact decide_eq_true h1
    · rw [if_neg h1, if_neg]
      unfold fB
      rw [if_neg (by omega), if_pos rfl]
      simpa using h1
end Go.Proofs.Ytaldacjeeccbhaa
