/-
  The document's reader: numbers.
-/
import Derived.Test.YtaldacjeeccbhaaBackMath2
import Derived.OwnWalk
namespace Go.Proofs.Ytaldacjeeccbhaa
open Go.RowKit

structure RefR (w : World) (q qb : Nat) (v : Value) (B : List Int) (pl : Nat) (e : Int) : Prop where
  c0 : w.cell? ⟨q, 0, none⟩ = some v
  c1 : w.cell? ⟨q, 1, none⟩ = some (.int .i64 (pl : Int))
  c2 : w.cell? ⟨q, 2, none⟩ = some (.int .i64 e)
  f1 : w.frozen? ⟨q, 1, none⟩ = false
  f2 : w.frozen? ⟨q, 2, none⟩ = false
  rd : Rd w v B
  ap : ∀ b off len cap, v = .slice (some ⟨b, off, none⟩) len cap → b = qb
  ne : qb ≠ q
  le : pl ≤ B.length

theorem RefR.lt {w : World} {q qb : Nat} {v : Value} {B : List Int} {pl : Nat} {e : Int} (h : RefR w q qb v B pl e) : q < w.heap.size := World.block_lt_of_cell? _ _ h.c0
theorem RefR.keep {w w' : World} {q qb : Nat} {v : Value} {B : List Int} {pl : Nat} {e : Int} {S : Nat → Prop} (h : RefR w q qb v B pl e) (f : Fr S w w') (hr : ¬ S q) (hS : ∀ b off len cap, v = .slice (some ⟨b, off, none⟩) len cap → ¬ S b) : RefR w' q qb v B pl e :=
  ⟨(f.cell h.lt hr).trans h.c0, (f.cell h.lt hr).trans h.c1, (f.cell h.lt hr).trans h.c2, (f.frozen h.lt hr).trans h.f1, (f.frozen h.lt hr).trans h.f2, h.rd.keep f hS, h.ap, h.ne, h.le⟩
theorem RefR.drewN {w : World} {q qb : Nat} {v : Value} {B : List Int} {pl : Nat} {e : Int} (h : RefR w q qb v B pl e) (n : Nat) : RefR (w.drewN n) q qb v B pl e :=
  h.keep (S := fun _ => False) (Fr.drewN n) (by simp) (by simp)
theorem RefR.err {w : World} {q qb : Nat} {v : Value} {B : List Int} {pl : Nat} {e : Int} (h : RefR w q qb v B pl e) (k : Int) :
    RefR (w.setCell ⟨q, 2, none⟩ (.int .i64 k)) q qb v B pl k ∧ RFr q w (w.setCell ⟨q, 2, none⟩ (.int .i64 k)) := by
  have hf : RFr q w (w.setCell ⟨q, 2, none⟩ (.int .i64 k)) := Fr.setCell (S := fun k => k = q) (Fr.refl _ w) ⟨q, 2, none⟩ (.inr rfl) _
  refine ⟨⟨?_, ?_, World.cell?_setCell_same _ _ _ h.c2, by rw [World.frozen?_setCell]; exact h.f1, by rw [World.frozen?_setCell]; exact h.f2, h.rd.keep hf (fun b off len cap hv e => h.ne ((h.ap b off len cap hv).symm.trans e)), h.ap, h.ne, h.le⟩, hf⟩
  · rw [World.cell?_setCell_other _ _ _ _ (by simp)]; exact h.c0
  · rw [World.cell?_setCell_other _ _ _ _ (by simp)]; exact h.c1
theorem RefR.move {w : World} {q qb : Nat} {v : Value} {B : List Int} {pl : Nat} {e : Int} (h : RefR w q qb v B pl e) (k : Nat) (hk : k ≤ B.length) :
    RefR (w.setCell ⟨q, 1, none⟩ (.int .i64 (k : Int))) q qb v B k e ∧ RFr q w (w.setCell ⟨q, 1, none⟩ (.int .i64 (k : Int))) := by
  have hf : RFr q w (w.setCell ⟨q, 1, none⟩ (.int .i64 (k : Int))) := Fr.setCell (S := fun k => k = q) (Fr.refl _ w) ⟨q, 1, none⟩ (.inr rfl) _
  refine ⟨⟨?_, World.cell?_setCell_same _ _ _ h.c1, ?_, by rw [World.frozen?_setCell]; exact h.f1, by rw [World.frozen?_setCell]; exact h.f2, h.rd.keep hf (fun b off len cap hv e => h.ne ((h.ap b off len cap hv).symm.trans e)), h.ap, h.ne, hk⟩, hf⟩
  · rw [World.cell?_setCell_other _ _ _ _ (by simp)]; exact h.c0
  · rw [World.cell?_setCell_other _ _ _ _ (by simp)]; exact h.c2

/-- What a call of it comes to. -/
def RefPost (q qb : Nat) (v : Value) (B : List Int) (w : World) (p : Value × List Int × Int) (e : Ending) (w' : World) : Prop :=
  e = .returned p.1 ∧ ∃ pl, RefR w' q qb v B pl p.2.2 ∧ B.drop pl = p.2.1 ∧ RFr q w w'
theorem rres_bad (zero : Value) (o : Except Int (Value × List Int)) (bs : List Int) (e0 : Int) (h : e0 ≠ 0) : rres zero o bs e0 = (zero, bs, e0) := if_neg h
theorem rres_error (zero : Value) (k : Int) (bs : List Int) : rres zero (.error k) bs 0 = (zero, bs, k) := rfl
theorem drop_getD0 (bs : List Int) (j : Nat) (hj : j < bs.length) : bs.drop j = bs.getD j 0 :: bs.drop (j + 1) := by
  rw [List.drop_eq_getElem_cons hj]; simp [List.getD, hj]

set_option maxHeartbeats 800000 in
set_option maxRecDepth 100000 in
theorem refByte_any (q : Nat) {qb : Nat} (v : Value) (B : List Int) (pl : Nat) (e0 : Int) (w : World) (h : RefR w q qb v B pl e0) (hN : B.length ≤ 140737488355328) :
    Calls Try.prog 63 #[.pointer (some ⟨q, 0, none⟩)] w fun e w' => RefPost q qb v B w (rres (.int .u8 0) (gByte (B.drop pl)) (B.drop pl) e0) e w' := by
  obtain ⟨a, cap, rfl⟩ := h.rd.shapeR
  have c0 := h.c0
  have c1 := h.c1
  have c2 := h.c2
  have f1 := h.f1
  have f2 := h.f2
  by_cases he : e0 = 0
  · subst he
    by_cases hl : pl < B.length
    · rw [drop_getD0 B pl hl, gByte, rres_ok]
      obtain ⟨cb, co, rfl, hcb, hc⟩ := h.rd.at pl hl
      have HM := hide (fun n => (h.drewN n).move (pl + 1) hl)
      clear h
      obtain ⟨N, hNN⟩ : ∃ N, Hid (B.length = N) := ⟨_, rfl⟩
      have i0 : (0 : Int) ≤ (pl : Int) := by omega
      have i1 : (pl : Int) < (N : Int) := by rw [← unhide hNN]; omega
      have i2 : decide ((N : Int) ≤ (pl : Int)) = false := decide_eq_false (by omega)
      rw [unhide hNN] at c0 hN hl HM ⊢
      generalize B.getD pl 0 = b at hc ⊢
      go_enter Try.func63, Try.ntmps63
      go_wp2
      go_quiet (fail)
      go_wp2
      go_quiet (fail)
      go_wp2
      go_ret
      exact ⟨rfl, pl + 1, (unhide HM _).1, rfl, (Fr.drewN _).trans (unhide HM _).2⟩
    · have hpl : pl = B.length := by have := h.le; omega
      subst hpl
      rw [List.drop_length, gByte, rres_error]
      have HM := hide (fun n => (h.drewN n).err 2)
      have HD : Hid (B.drop B.length = []) := List.drop_length
      clear h
      generalize B.length = N at *
      go_enter Try.func63, Try.ntmps63
      go_wp2
      go_quiet (fail)
      go_wp2
      go_ret
      exact ⟨rfl, N, (unhide HM _).1, unhide HD, (Fr.drewN _).trans (unhide HM _).2⟩
  · rw [rres_bad _ _ _ _ he]
    have q0 : (e0 != 0) = true := by rw [bne_iff_ne]; exact he
    have H := hide h
    clear h he
    go_enter Try.func63, Try.ntmps63
    go_wp2
    go_ret
    exact ⟨rfl, pl, unhide H, rfl, RFr.refl _ _⟩


/-- What 'number' answers of the bytes from a place on. -/
def numRes (left : List Int) (o : Except Int (Nat × List Int)) : Value :=
  match o with
  | .ok (x, t) => .tuple #[.int .u64 (x : Int), .int .i64 ((left.length - t.length : Nat) : Int), .int .i64 0]
  | .error k => .tuple #[.int .u64 0, .int .i64 0, .int .i64 k]

theorem numRes_ok {B : List Int} {pl i x : Nat} {X : Int} (hx : X = (x : Int)) (hlt : pl + i < B.length) :
    Ending.returned (.tuple #[.int .u64 X, .int .i64 ((i : Int) + 1), .int .i64 0]) = .returned (numRes (B.drop pl) (.ok (x, B.drop (pl + i + 1)))) := by
  subst hx
  have e : ((B.drop pl).length - (B.drop (pl + i + 1)).length : Nat) = i + 1 := by rw [List.length_drop, List.length_drop]; omega
  simp only [numRes, e]
  rfl
/-- A digit above the digits so far, by addition. -/
theorem add_digit (i acc : Nat) (b : Int) (hb0 : 0 ≤ b) (hi : i < 9) (ha : acc < 128 ^ i) : IntKind.u64.wrap ((acc : Int) + IntKind.u64.wrap (b % 128 * 2 ^ (7 * i))) = ((acc + b.toNat % 128 * 128 ^ i : Nat) : Int) := by
  have e : (128 : Nat) ^ i = 2 ^ (7 * i) := by rw [Nat.pow_mul]
  have h1 : 128 ^ (i + 1) ≤ 2 ^ 63 := pow9 (by omega)
  obtain ⟨c, hc⟩ : ∃ c, b.toNat % 128 = c := ⟨_, rfl⟩
  have hcb : b % 128 = (c : Int) := by omega
  have hc1 : c < 128 := by omega
  have h2 := acc_next hc1 ha
  rw [hc, hcb, show ((c : Int) * 2 ^ (7 * i)) = ((c * 128 ^ i : Nat) : Int) from by rw [e, Int.natCast_mul, Int.natCast_pow]; rfl, wrapU _ (by omega), ← Int.natCast_add, wrapU _ (by omega)]

theorem add0 (acc : Nat) (b : Int) (hb0 : 0 ≤ b) (ha : acc < 128 ^ 0) : IntKind.u64.wrap ((acc : Int) + b % 128) = ((acc + b.toNat % 128 * 128 ^ 0 : Nat) : Int) := by
  have h := add_digit 0 acc b hb0 (by omega) ha
  have e : IntKind.u64.wrap (b % 128 * 2 ^ (7 * 0)) = b % 128 := by
    have hc : b % 128 = ((b.toNat % 128 : Nat) : Int) := by omega
    rw [hc, show (((b.toNat % 128 : Nat) : Int) * 2 ^ (7 * 0)) = ((b.toNat % 128 : Nat) : Int) from by simp, wrapU _ (by omega)]
  rw [e] at h
  exact h
theorem add9 (acc : Nat) (ha : acc < 128 ^ 9) : IntKind.u64.wrap ((acc : Int) + 9223372036854775808) = ((acc + Int.toNat 1 % 128 * 128 ^ 9 : Nat) : Int) := by
  have e : (128 : Nat) ^ 9 = 9223372036854775808 := by decide
  rw [e] at ha
  rw [show ((acc : Int) + 9223372036854775808) = ((acc + 9223372036854775808 : Nat) : Int) from by omega, wrapU _ (by omega), e]
  rfl

set_option maxHeartbeats 1600000 in
set_option maxRecDepth 100000 in
theorem refNumber_any (v : Value) (B : List Int) (pl : Nat) (w : World) (hR : Rd w v B) (hB : BOk B) (hN : B.length ≤ 140737488355328) (hpl : pl ≤ B.length) :
    Calls Try.prog 61 #[v, .int .i64 (pl : Int)] w fun e w' => e = .returned (numRes (B.drop pl) (unum 0 0 (B.drop pl))) ∧ w' = w := by
  obtain ⟨a, cap, rfl⟩ := hR.shapeR
  obtain ⟨o, ho⟩ : ∃ o, Hid (unum 0 0 (B.drop pl) = o) := ⟨_, rfl⟩
  rw [unhide ho]
  have HR := hide hR
  have HB := hide hB
  obtain ⟨N, hNN⟩ : ∃ N, Hid (B.length = N) := ⟨_, rfl⟩
  rw [unhide hNN] at hN hpl HR ⊢
  clear hR hB
  go_enter Try.func61, Try.ntmps61
  go_wp2
  go_loopg [7, 8] 10 (fun k x s wr => ∃ (i acc : Nat), Hid (i + k = 10) ∧ Hid (acc < 128 ^ i) ∧ i ≤ 9 ∧ x = .int .u64 (acc : Int) ∧ s = .int .i64 (i : Int) ∧ wr = w ∧ Hid (pl + i ≤ N) ∧ Hid (unum i acc (B.drop (pl + i)) = o))
  case atStart => exact ⟨0, 0, rfl, by unfold Hid; simp, by omega, rfl, rfl, rfl, hpl, unhide ho⟩
  case round =>
    obtain ⟨i, acc, hik, hacc, hi9, rfl, rfl, rfl, hle, hU⟩ := hrel
    have i10 : (i : Int) < 10 := by omega
    have ip : pl + i ≤ 140737488355328 := by have := unhide hle; omega
    by_cases hlt : pl + i < N
    · obtain ⟨cb, co, rfl, hcb, hc⟩ := (unhide HR).at (pl + i) (by rw [unhide hNN]; exact hlt)
      have hD := drop_getD0 B (pl + i) (by rw [unhide hNN]; exact hlt)
      have hU' := unhide hU
      rw [hD] at hU'
      have hbb := unhide HB (B.getD (pl + i) 0) (by rw [List.getD, List.getElem?_eq_getElem (by rw [unhide hNN]; exact hlt)]; simp)
      generalize B.getD (pl + i) 0 = b at hc hU' hbb
      rw [unum_cons] at hU'
      have HU := hide hU'
      clear hU' hD hU
      have j0 : (0 : Int) ≤ (pl : Int) + (i : Int) := by omega
      have j1 : (pl : Int) + (i : Int) < (N : Int) := by omega
      obtain ⟨hb0, hb1⟩ := hbb
      by_cases h9 : i = 9
      · subst h9
        by_cases hb9 : b = 1
        · subst hb9
          go_wp2
          go_ret3
          refine ⟨?_, rfl⟩
          rw [← unhide HU, if_neg (by omega), if_pos (by omega)]
          exact numRes_ok (i := 9) (by have := unhide hacc; exact add9 acc this) (by rw [unhide hNN]; exact hlt)
        · have q1 : (b != 1) = true := by rw [bne_iff_ne]; exact hb9
          have HE : Hid (Except.error 4 = o) := by rw [← unhide HU, if_pos (.inl ⟨rfl, hb9⟩)]; rfl
          clear hb9
          go_wp2
          go_ret3
          exact ⟨by rw [← unhide HE]; rfl, rfl⟩
      by_cases h0 : i = 0
      · subst h0
        rw [Nat.add_zero] at hc
        by_cases hs : b < 128
        · go_wp2
          go_ret3
          refine ⟨?_, rfl⟩
          rw [← unhide HU, if_neg (by omega), if_pos hs]
          exact numRes_ok (i := 0) (add0 acc b hb0 (unhide hacc)) (by rw [unhide hNN]; exact hlt)
        · have HN2 := hide (acc_next (c := b.toNat % 128) (by omega) (unhide hacc))
          have HU2 : Hid (unum (0 + 1) (acc + b.toNat % 128 * 128 ^ 0) (B.drop (pl + (0 + 1))) = o) := by
            have := unhide HU
            rw [if_neg (by omega), if_neg hs] at this
            exact this
          go_wp2
          go_roundg (gk - 1)
          case measure => have := unhide hik; omega
          case rel => exact ⟨0 + 1, _, by have := unhide hik; unfold Hid; omega, HN2, by omega, congrArg (Value.int IntKind.u64) (add0 acc b hb0 (unhide hacc)), by go_num, rfl, by unfold Hid; omega, HU2⟩
      have q1 : ((i : Int) == 9) = false := by rw [beq_eq_false_iff_ne]; omega
      have q2 : (0 : Int) < (i : Int) := by omega
      by_cases hz : b = 0
      · subst hz
        have HE : Hid (Except.error 4 = o) := by rw [← unhide HU, if_pos (.inr ⟨by omega, rfl⟩)]; rfl
        go_wp2
        go_ret3
        exact ⟨by rw [← unhide HE]; rfl, rfl⟩
      have q3 : (b == 0) = false := by rw [beq_eq_false_iff_ne]; exact hz
      by_cases hs : b < 128
      · go_wp2
        go_ret3
        refine ⟨?_, rfl⟩
        rw [← unhide HU, if_neg (fun h => h.elim (fun k => h9 k.1) (fun k => hz k.2)), if_pos hs]
        exact numRes_ok (add_digit i acc b hb0 (by omega) (unhide hacc)) (by rw [unhide hNN]; exact hlt)
      · have HN2 := hide (acc_next (c := b.toNat % 128) (by omega) (unhide hacc))
        have HU2 : Hid (unum (i + 1) (acc + b.toNat % 128 * 128 ^ i) (B.drop (pl + (i + 1))) = o) := by
          have := unhide HU
          rw [if_neg (fun h => h.elim (fun k => h9 k.1) (fun k => hz k.2)), if_neg hs] at this
          exact this
        go_wp2
        go_roundg (gk - 1)
        case measure => have := unhide hik; omega
        case rel => exact ⟨i + 1, _, by have := unhide hik; unfold Hid; omega, HN2, by omega, congrArg (Value.int IntKind.u64) (add_digit i acc b hb0 (by omega) (unhide hacc)), by go_num, rfl, by unfold Hid; omega, HU2⟩
    · have j1 : ¬ ((pl : Int) + (i : Int) < (N : Int)) := by omega
      have HE : Hid (Except.error 2 = o) := by
        have := unhide hU
        rw [List.drop_eq_nil_of_le (by rw [unhide hNN]; omega)] at this
        exact this
      go_wp2
      go_ret3
      exact ⟨by rw [← unhide HE]; rfl, rfl⟩
end Go.Proofs.Ytaldacjeeccbhaa
