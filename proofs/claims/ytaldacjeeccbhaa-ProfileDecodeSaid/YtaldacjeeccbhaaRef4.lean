/-
  The document's reader: Int, Count, Text.
-/
import Derived.Test.YtaldacjeeccbhaaRef2
namespace Go.Proofs.Ytaldacjeeccbhaa
open Go.RowKit

theorem num_place {B : List Int} {pl x : Nat} {t : List Int} (hB : BOk B) (hpl : pl ≤ B.length) (hu : unum 0 0 (B.drop pl) = .ok (x, t)) :
    B.drop (pl + ((B.drop pl).length - t.length)) = t ∧ pl + ((B.drop pl).length - t.length) ≤ B.length ∧ x < 2 ^ 64 ∧ BOk t := by
  have h1 := unum_one _ x t (hB.drop pl) hu
  have h2 := unum_lt 0 0 _ x t (by omega) (by decide) (hB.drop pl) hu
  refine ⟨?_, ?_, h2.1, h2.2⟩
  · rw [← List.drop_drop, ← h1]
    simp
  · have : (B.drop pl).length = B.length - pl := List.length_drop
    omega
theorem RefR.num {w : World} {q qb : Nat} {v : Value} {B : List Int} {pl : Nat} {e : Int} (h : RefR w q qb v B pl e) (hB : BOk B) (hN : B.length ≤ 140737488355328) (n : Nat) :
    Calls Try.prog 61 #[v, .int .i64 (pl : Int)] (w.drewN n) fun e w' => e = .returned (numRes (B.drop pl) (unum 0 0 (B.drop pl))) ∧ w' = w.drewN n :=
  refNumber_any v B pl (w.drewN n) (h.drewN n).rd hB hN h.le

set_option maxHeartbeats 800000 in
set_option maxRecDepth 100000 in
theorem refUint_any (q : Nat) {qb : Nat} (v : Value) (B : List Int) (pl : Nat) (e0 : Int) (w : World) (h : RefR w q qb v B pl e0) (hB : BOk B) (hN : B.length ≤ 140737488355328) :
    Calls Try.prog 84 #[.pointer (some ⟨q, 0, none⟩)] w fun e w' => RefPost q qb v B w (rres (.int .u64 0) (gNum (fun x => .int .u64 x) (unum 0 0 (B.drop pl))) (B.drop pl) e0) e w' := by
  have c0 := h.c0
  have c1 := h.c1
  have c2 := h.c2
  have f1 := h.f1
  have f2 := h.f2
  by_cases he : e0 = 0
  · subst he
    have hC := h.num hB hN
    rcases hu : unum 0 0 (B.drop pl) with k | ⟨x, t⟩
    · rw [hu] at hC
      have hk : k ≠ 0 := unum_err 0 0 _ k hu
      have q0 : (k != 0) = true := by rw [bne_iff_ne]; exact hk
      have HC := hide hC
      have HM := hide (fun n => (h.drewN n).err k)
      rw [gNum, rres_error]
      clear h hu hC hk
      unfold numRes at HC
      go_enter Try.func84, Try.ntmps84
      go_wp2
      go_quiet (first | (go_at_call 61; exact Calls.quiet_of_same (unhide HC _)))
      go_wp2
      go_ret
      exact ⟨rfl, pl, (unhide HM _).1, rfl, (Fr.drewN _).trans (unhide HM _).2⟩
    · rw [hu] at hC
      obtain ⟨p1, p2, p3, p4⟩ := num_place hB h.le hu
      have HC := hide hC
      unfold numRes at HC
      dsimp only at HC
      obtain ⟨m, hm⟩ : ∃ m, (B.drop pl).length - t.length = m := ⟨_, rfl⟩
      rw [hm] at HC p1 p2
      have HM := hide (fun n => (h.drewN n).move (pl + m) p2)
      have HP := hide p1
      have hs : (pl : Int) + (m : Int) ≤ 140737488355328 := by omega
      rw [gNum, rres_ok]
      clear h hu hC hm p1
      go_enter Try.func84, Try.ntmps84
      go_wp2
      go_quiet (first | (go_at_call 61; exact Calls.quiet_of_same (unhide HC _)))
      go_wp2
      go_ret
      exact ⟨rfl, pl + m, (unhide HM _).1, unhide HP, (Fr.drewN _).trans (unhide HM _).2⟩
  · rw [rres_bad _ _ _ _ he]
    have q0 : (e0 != 0) = true := by rw [bne_iff_ne]; exact he
    have H := hide h
    clear h he
    go_enter Try.func84, Try.ntmps84
    go_wp2
    go_ret
    exact ⟨rfl, pl, unhide H, rfl, RFr.refl _ _⟩

set_option maxHeartbeats 400000 in
set_option maxRecDepth 100000 in
theorem refEnd_any (q : Nat) {qb : Nat} (v : Value) (B : List Int) (pl : Nat) (e0 : Int) (w : World) (h : RefR w q qb v B pl e0) :
    Calls Try.prog 47 #[.pointer (some ⟨q, 0, none⟩)] w fun e w' => e = .returned (.int .i64 (rEnd (B.drop pl) e0)) ∧ ∃ n, w' = w.drewN n := by
  obtain ⟨a, cap, rfl⟩ := h.rd.shapeR
  have c0 := h.c0
  have c1 := h.c1
  have c2 := h.c2
  have hle := h.le
  clear h
  unfold rEnd
  rw [List.length_drop]
  generalize B.length = N at *
  by_cases he : e0 = 0
  · subst he
    rw [if_pos rfl]
    by_cases hl : pl < N
    · rw [if_neg (by omega)]
      have i1 : (pl : Int) < (N : Int) := by omega
      go_enter Try.func47, Try.ntmps47
      go_wp2
      go_quiet (fail)
      go_wp2
      go_ret
      exact ⟨rfl, _, rfl⟩
    · rw [if_pos (by omega)]
      have i1 : decide ((pl : Int) < (N : Int)) = false := decide_eq_false (by omega)
      go_enter Try.func47, Try.ntmps47
      go_wp2
      go_quiet (fail)
      go_wp2
      go_ret
      exact ⟨rfl, _, rfl⟩
  · rw [if_neg he]
    have q0 : (e0 == 0) = false := by rw [beq_eq_false_iff_ne]; exact he
    clear he
    go_enter Try.func47, Try.ntmps47
    go_wp2
    go_quiet (fail)
    go_wp2
    go_ret
    exact ⟨rfl, _, rfl⟩


set_option maxHeartbeats 400000 in
set_option maxRecDepth 100000 in
theorem unfolded_any (x : Nat) (w : World) (hx : x < 2 ^ 64) :
    Calls Try.prog 85 #[.int .u64 (x : Int)] w fun e w' => e = .returned (.int .i64 (unfoldI x)) ∧ w' = w := by
  unfold unfoldI
  have hw : wrap64 ((x : Int) / 2) = ((x / 2 : Nat) : Int) := by unfold wrap64; omega
  by_cases h : x % 2 = 0
  · rw [if_pos h]
    have q0 : ((x : Int) % 2 == 0) = true := by rw [beq_iff_eq]; omega
    go_enter Try.func85, Try.ntmps85
    go_wp2
    go_ret
    exact ⟨rfl, rfl⟩
  · rw [if_neg h]
    have q0 : ((x : Int) % 2 == 0) = false := by rw [beq_eq_false_iff_ne]; omega
    go_enter Try.func85, Try.ntmps85
    go_wp2
    go_ret
    exact ⟨rfl, rfl⟩

set_option maxHeartbeats 400000 in
set_option maxRecDepth 100000 in
theorem above_any (x : Nat) (most : Int) (w : World) (hm : most ≤ 9223372036854775807) :
    Calls Try.prog 62 #[.int .u64 (x : Int), .int .i64 most] w fun e w' => e = .returned (.bool (decide (max most 0 < (x : Int)))) ∧ w' = w := by
  by_cases h : most < 0
  · rw [show max most 0 = 0 from by omega, show decide ((0 : Int) < (x : Int)) = decide (0 < x) from decide_eq_decide.2 (by omega)]
    go_enter Try.func62, Try.ntmps62
    go_wp2
    go_ret
    exact ⟨rfl, rfl⟩
  · rw [show max most 0 = most from by omega]
    have h' : 0 ≤ most := by omega
    have hw : IntKind.u64.wrap most = most := by rw [IntKind.wrap_u64]; omega
    go_enter Try.func62, Try.ntmps62
    go_wp2
    go_ret
    exact ⟨rfl, rfl⟩

set_option maxHeartbeats 400000 in
set_option maxRecDepth 100000 in
theorem refInt_any (q : Nat) {qb : Nat} (v : Value) (B : List Int) (pl : Nat) (e0 : Int) (w : World) (h : RefR w q qb v B pl e0) (hB : BOk B) (hN : B.length ≤ 140737488355328) :
    Calls Try.prog 65 #[.pointer (some ⟨q, 0, none⟩)] w fun e w' => RefPost q qb v B w (rres (.int .i64 0) (gNum (fun x => .int .i64 (unfoldI x)) (unum 0 0 (B.drop pl))) (B.drop pl) e0) e w' := by
  obtain ⟨x, left, e1, hres, hx, hr2⟩ : ∃ (x : Nat) (left : List Int) (e1 : Int), rres (.int .u64 0) (gNum (fun x => .int .u64 x) (unum 0 0 (B.drop pl))) (B.drop pl) e0 = (.int .u64 (x : Int), left, e1) ∧ x < 2 ^ 64 ∧
      rres (.int .i64 0) (gNum (fun x => .int .i64 (unfoldI x)) (unum 0 0 (B.drop pl))) (B.drop pl) e0 = (.int .i64 (unfoldI x), left, e1) := by
    unfold rres
    split
    · rcases hu : unum 0 0 (B.drop pl) with k | ⟨x, t⟩
      · exact ⟨0, _, k, rfl, by omega, rfl⟩
      · exact ⟨x, t, 0, rfl, (num_place hB h.le hu).2.2.1, rfl⟩
    · exact ⟨0, _, e0, rfl, by omega, rfl⟩
  have hC := refUint_any q v B pl e0 w h hB hN
  rw [hres] at hC
  rw [hr2]
  have HC := hide hC
  have HU := hide (fun w => unfolded_any x w hx)
  clear h hC hres hr2
  go_enter Try.func65, Try.ntmps65
  go_wp2_with fail
  refine (unhide HC).mono ?_
  rintro e w1 ⟨rfl, pl', hR, hd, hF⟩
  have HH := hide (And.intro hR (And.intro hd hF))
  clear hR hd hF
  go_wp2_with fail
  refine (unhide HU _).mono ?_
  rintro e w2 ⟨rfl, hw2⟩
  rw [hw2]
  clear hw2 w2
  go_wp2
  go_ret
  exact ⟨rfl, pl', (unhide HH).1, (unhide HH).2.1, (unhide HH).2.2⟩

set_option maxHeartbeats 800000 in
set_option maxRecDepth 100000 in
theorem refCount_any (q : Nat) {qb : Nat} (v : Value) (B : List Int) (pl : Nat) (e0 most : Int) (w : World) (h : RefR w q qb v B pl e0) (hB : BOk B) (hN : B.length ≤ 140737488355328) (hm : most ≤ 9223372036854775807) :
    Calls Try.prog 45 #[.pointer (some ⟨q, 0, none⟩), .int .i64 most] w fun e w' => RefPost q qb v B w (rres (.int .i64 0) (gNum (fun x => .int .i64 x) (unumMost most (B.drop pl))) (B.drop pl) e0) e w' := by
  have c0 := h.c0
  have c1 := h.c1
  have c2 := h.c2
  have f1 := h.f1
  have f2 := h.f2
  by_cases he : e0 = 0
  · subst he
    have hC := h.num hB hN
    unfold unumMost
    rcases hu : unum 0 0 (B.drop pl) with k | ⟨x, t⟩
    · rw [hu] at hC
      have hk : k ≠ 0 := unum_err 0 0 _ k hu
      have q0 : (k != 0) = true := by rw [bne_iff_ne]; exact hk
      have HC := hide hC
      have HM := hide (fun n => (h.drewN n).err k)
      dsimp only
      rw [gNum, rres_error]
      clear h hu hC hk
      unfold numRes at HC
      go_enter Try.func45, Try.ntmps45
      go_wp2
      go_quiet (first | (go_at_call 61; exact Calls.quiet_of_same (unhide HC _)))
      go_wp2
      go_ret
      exact ⟨rfl, pl, (unhide HM _).1, rfl, (Fr.drewN _).trans (unhide HM _).2⟩
    · rw [hu] at hC
      obtain ⟨p1, p2, p3, p4⟩ := num_place hB h.le hu
      have HC := hide hC
      unfold numRes at HC
      dsimp only at HC ⊢
      obtain ⟨m, hm2⟩ : ∃ m, (B.drop pl).length - t.length = m := ⟨_, rfl⟩
      rw [hm2] at HC p1 p2
      have hA := fun w => above_any x most w hm
      by_cases hab : max most 0 < (x : Int)
      · rw [if_pos hab, gNum, rres_error]
        rw [decide_eq_true hab] at hA
        have HA := hide hA
        have HM := hide (fun n => (h.drewN n).err 5)
        clear h hu hC hm2 p1 hA hab
        go_enter Try.func45, Try.ntmps45
        go_wp2
        go_quiet (first | (go_at_call 61; exact Calls.quiet_of_same (unhide HC _)))
        go_wp2_with fail
        refine (unhide HA _).mono ?_
        rintro e w2 ⟨rfl, hw2⟩
        rw [hw2]
        clear hw2 w2
        go_wp2
        go_ret
        exact ⟨rfl, pl, (unhide HM _).1, rfl, (Fr.drewN _).trans (unhide HM _).2⟩
      · rw [if_neg hab, gNum, rres_ok]
        rw [decide_eq_false hab] at hA
        have HA := hide hA
        have HM := hide (fun n => (h.drewN n).move (pl + m) p2)
        have HP := hide p1
        have hs : (pl : Int) + (m : Int) ≤ 140737488355328 := by omega
        have hxm : (x : Int) ≤ 9223372036854775807 := by omega
        have hw : wrap64 (x : Int) = (x : Int) := by unfold wrap64; omega
        clear h hu hC hm2 p1 hA hab
        go_enter Try.func45, Try.ntmps45
        go_wp2
        go_quiet (first | (go_at_call 61; exact Calls.quiet_of_same (unhide HC _)))
        go_wp2_with fail
        refine (unhide HA _).mono ?_
        rintro e w2 ⟨rfl, hw2⟩
        rw [hw2]
        clear hw2 w2
        go_wp2
        go_ret
        exact ⟨rfl, pl + m, (unhide HM _).1, unhide HP, (Fr.drewN _).trans (unhide HM _).2⟩
  · rw [rres_bad _ _ _ _ he]
    have q0 : (e0 != 0) = true := by rw [bne_iff_ne]; exact he
    have H := hide h
    clear h he
    go_enter Try.func45, Try.ntmps45
    go_wp2
    go_ret
    exact ⟨rfl, pl, unhide H, rfl, RFr.refl _ _⟩
end Go.Proofs.Ytaldacjeeccbhaa
