/-
  The document's reader: Word.
-/
import Derived.Test.YtnfinplkeefdgaaRef5
namespace Go.Proofs.Ytnfinplkeefdgaa
open Go.RowKit

theorem wnum_bd (l : List Int) (hB : BOk l) : wnum 0 l < 256 ^ l.length := by
  have h := wnum_top l 0 hB
  exact (Nat.div_eq_zero_iff_lt (Nat.pow_pos (by omega))).1 h

set_option maxHeartbeats 1600000 in
set_option maxRecDepth 100000 in
theorem refWord_any (q : Nat) {qb : Nat} (v : Value) (B : List Int) (pl : Nat) (e0 : Int) (w : World) (h : RefR w q qb v B pl e0) (hB : BOk B) (hN : B.length ≤ 140737488355328) :
    Calls Try.prog 65 #[.pointer (some ⟨q, 0, none⟩)] w fun e w' => RefPost q qb v B w (rres (.int .u64 0) (gWord (B.drop pl)) (B.drop pl) e0) e w' := by
  obtain ⟨a, cap, rfl⟩ := h.rd.shapeR
  have c0 := h.c0
  have c1 := h.c1
  have c2 := h.c2
  have f1 := h.f1
  have f2 := h.f2
  have hle := h.le
  by_cases he : e0 = 0
  · subst he
    unfold gWord
    rw [List.length_drop]
    by_cases hl : B.length - pl < 8
    · rw [if_pos hl, rres_error]
      have HM := hide (fun n => (h.drewN n).err 2)
      have hlt : (B.length : Int) - (pl : Int) < 8 := by omega
      clear h hl
      generalize B.length = N at *
      go_enter Try.func65, Try.ntmps65
      go_wp2
      go_quiet (fail)
      go_wp2
      go_ret
      exact ⟨rfl, pl, (unhide HM _).1, rfl, (Fr.drewN _).trans (unhide HM _).2⟩
    · rw [if_neg hl, rres_ok, List.drop_drop]
      have HM := hide (fun n => (h.drewN n).move (pl + 8) (by omega))
      have hlt : decide ((B.length : Int) - (pl : Int) < 8) = false := decide_eq_false (by omega)
      have hpl : pl + 8 ≤ B.length := by omega
      have HRd := hide h.rd
      have HB := hide hB
      obtain ⟨N, hNN⟩ : ∃ N, Hid (B.length = N) := ⟨_, rfl⟩
      rw [unhide hNN] at c0 hN hle hlt hpl HM ⊢
      clear h hl hB
      go_enter Try.func65, Try.ntmps65
      go_wp2
      go_quiet (fail)
      go_wp2
      go_loopg [3, 4] 8 (fun k x s wr => ∃ (i acc : Nat), Hid (i + k = 8) ∧ Hid (acc = wnum 0 ((B.drop pl).take i)) ∧ i ≤ 8 ∧ x = .int .u64 (acc : Int) ∧ s = .int .i64 (i : Int) ∧ ∃ n, wr = w.drewN n)
      case atStart => exact ⟨0, 0, rfl, by unfold Hid; simp [wnum], by omega, rfl, rfl, _, rfl⟩
      case round =>
        obtain ⟨i, acc, hik, hacc, hi8, rfl, rfl, n, hwr⟩ := hrel
        have d0 : wr.cell? ⟨q, 0, none⟩ = some (.slice a N cap) := by rw [hwr]; exact c0
        have d1 : wr.cell? ⟨q, 1, none⟩ = some (.int .i64 (pl : Int)) := by rw [hwr]; exact c1
        have d2 : wr.frozen? ⟨q, 1, none⟩ = false := by rw [hwr]; exact f1
        have HW := hide hwr
        by_cases h8 : i < 8
        · obtain ⟨cb, co, rfl, hcb, hc⟩ := (unhide HRd).at (pl + i) (by rw [unhide hNN]; omega)
          have hcell : wr.cell? ⟨cb, co + (pl + i), none⟩ = some (.int .u8 (B.getD (pl + i) 0)) := by rw [hwr]; exact hc
          have hbb := unhide HB (B.getD (pl + i) 0) (by rw [List.getD, List.getElem?_eq_getElem (by rw [unhide hNN]; omega)]; simp)
          have hbd := wnum_bd ((B.drop pl).take i) (((unhide HB).drop pl).take i)
          have hlen : ((B.drop pl).take i).length = i := by rw [List.length_take, List.length_drop, unhide hNN]; omega
          rw [hlen, ← unhide hacc] at hbd
          have hst := wnum_take 0 (B.drop pl) i (by rw [List.length_drop, unhide hNN]; omega)
          rw [← unhide hacc] at hst
          have hgd : (B.drop pl).getD i 0 = B.getD (pl + i) 0 := by simp [List.getD]
          rw [hgd] at hst
          have h7 : acc * 256 + 256 ≤ 2 ^ 64 := by
            have : 256 ^ i ≤ 256 ^ 7 := Nat.pow_le_pow_right (by omega) (by omega)
            have e : (256 : Nat) ^ 7 * 256 = 2 ^ 64 := by decide
            omega
          generalize B.getD (pl + i) 0 = b at *
          have Hst := hide hst
          have j0 : (0 : Int) ≤ (pl : Int) + (i : Int) := by omega
          have j1 : (pl : Int) + (i : Int) < (N : Int) := by omega
          have j2 : (i : Int) < 8 := by omega
          obtain ⟨hb0, hb1⟩ := hbb
          clear hwr hc hbd hst hlen hgd
          go_wp2
          go_quiet (fail)
          go_wp2
          go_roundg (gk - 1)
          case measure => have := unhide hik; omega
          case rel =>
            refine ⟨i + 1, acc * 256 + b.toNat, by have := unhide hik; unfold Hid; omega, by rw [unhide Hst]; rfl, by omega, ?_, by go_num, ?_⟩
            · exact congrArg (Value.int IntKind.u64) (by omega)
            · exact ⟨n + nq, by rw [unhide HW, drewN_drewN]⟩
        · have h88 : i = 8 := by omega
          subst h88
          clear hwr
          go_wp2
          go_ret
          rw [unhide HW]
          exact ⟨ret_int (congrArg _ (unhide hacc)), pl + 8, (unhide HM _).1, rfl, (Fr.drewN _).trans (unhide HM _).2⟩
  · rw [rres_bad _ _ _ _ he]
    have q0 : (e0 != 0) = true := by rw [bne_iff_ne]; exact he
    have H := hide h
    clear h he
    go_enter Try.func65, Try.ntmps65
    go_wp2
    go_ret
    exact ⟨rfl, pl, unhide H, rfl, RFr.refl _ _⟩
end Go.Proofs.Ytnfinplkeefdgaa
