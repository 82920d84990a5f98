/-
  The document's reader: Text.
-/
import Derived.Test.YtnfinplkeefdgaaRef4
namespace Go.Proofs.Ytnfinplkeefdgaa
open Go.RowKit

/-- A part of a row reads so. -/
theorem Rd.part {w : World} {b off cap : Nat} {B : List Int} (h : Rd w (.slice (some ⟨b, off, none⟩) B.length cap) B) (o' : Nat) (f x : Nat) (hx : f + x ≤ B.length) (ho : x ≠ 0 → o' = off + f) :
    Rd w (.slice (some ⟨b, o', none⟩) x (cap - f)) ((B.drop f).take x) := by
  have hl : ((B.drop f).take x).length = x := by simp; omega
  rcases h with ⟨e, _⟩ | ⟨b', off', cap', e, h1, h2, h3, h4⟩
  · simp at e
  · simp only [Value.slice.injEq, Option.some.injEq, Addr.mk.injEq, true_and, and_true] at e
    obtain ⟨⟨rfl, rfl⟩, rfl⟩ := e
    refine .inr ⟨b, o', cap - f, by rw [hl], by rw [hl]; omega, by omega, h3, fun i hi => ?_⟩
    rw [hl] at hi
    rw [ho (by omega), Nat.add_assoc, h4 (f + i) (by omega)]
    simp [List.getD, hi]

theorem Rd.cap_le {w : World} {a : Option Addr} {len cap : Nat} {bs : List Int} (h : Rd w (.slice a len cap) bs) : bs.length ≤ cap ∧ cap ≤ maxLen := by
  rcases h with ⟨e, rfl⟩ | ⟨b, off, cap', e, h1, h2, _⟩
  · simp only [Value.slice.injEq] at e
    exact ⟨Nat.zero_le _, by rw [e.2.2]; exact Nat.zero_le _⟩
  · simp only [Value.slice.injEq] at e
    rw [e.2.2]
    exact ⟨h1, h2⟩

set_option maxHeartbeats 1600000 in
set_option maxRecDepth 100000 in
theorem refText_any (q : Nat) {qb : Nat} (v : Value) (B : List Int) (pl : Nat) (e0 most : Int) (w : World) (h : RefR w q qb v B pl e0) (hB : BOk B) (hN : B.length ≤ 140737488355328) (hm : most ≤ 9223372036854775807) :
    Calls Try.prog 66 #[.pointer (some ⟨q, 0, none⟩), .int .i64 most] w fun e w' => RefPost q qb v B w (rres (.string ByteArray.empty) (gText most (B.drop pl)) (B.drop pl) e0) e w' := by
  have c0 := h.c0
  have c1 := h.c1
  have c2 := h.c2
  have f1 := h.f1
  have f2 := h.f2
  by_cases he : e0 = 0
  · subst he
    have hC := h.num hB hN
    unfold gText unumMost
    rcases hu : unum 0 0 (B.drop pl) with k | ⟨x, t⟩
    · rw [hu] at hC
      have hk : k ≠ 0 := unum_err 0 0 _ k hu
      have q0 : (k != 0) = true := by rw [bne_iff_ne]; exact hk
      have HC := hide hC
      have HM := hide (fun n => (h.drewN n).err k)
      dsimp only
      rw [rres_error]
      clear h hu hC hk
      unfold numRes at HC
      go_enter Try.func66, Try.ntmps66
      go_wp2
      go_quiet (first | (go_at_call 79; exact Calls.quiet_of_same (unhide HC _)))
      go_wp2
      go_ret
      exact ⟨rfl, pl, (unhide HM _).1, rfl, (Fr.drewN _).trans (unhide HM _).2⟩
    · rw [hu] at hC
      obtain ⟨p1, p2, p3, p4⟩ := num_place hB h.le hu
      have hpl : pl < B.length := by
        rcases Nat.lt_or_ge pl B.length with q | q
        · exact q
        · rw [List.drop_eq_nil_of_le q] at hu; simp [unum] at hu
      have HC := hide hC
      unfold numRes at HC
      dsimp only at HC ⊢
      obtain ⟨m, hm2⟩ : ∃ m, (B.drop pl).length - t.length = m := ⟨_, rfl⟩
      rw [hm2] at HC p1 p2
      have hA := fun w => above_any x most w hm
      by_cases hab : max most 0 < (x : Int)
      · rw [if_pos hab, rres_error]
        rw [decide_eq_true hab] at hA
        have HA := hide hA
        have HM := hide (fun n => (h.drewN n).err 5)
        clear h hu hC hm2 p1 hA hab
        go_enter Try.func66, Try.ntmps66
        go_wp2
        go_quiet (first | (go_at_call 79; exact Calls.quiet_of_same (unhide HC _)))
        go_wp2_with fail
        refine (unhide HA _).mono ?_
        rintro e w2 ⟨rfl, hw2⟩
        rw [hw2]
        clear hw2 w2
        go_wp2
        go_ret
        exact ⟨rfl, pl, (unhide HM _).1, rfl, (Fr.drewN _).trans (unhide HM _).2⟩
      · rw [if_neg hab]
        dsimp only
        rw [decide_eq_false hab] at hA
        have HA := hide hA
        have hs : (pl : Int) + (m : Int) ≤ 140737488355328 := by omega
        have hxm : (x : Int) ≤ 9223372036854775807 := by omega
        have hw : wrap64 (x : Int) = (x : Int) := by unfold wrap64; omega
        have htl : t.length = B.length - (pl + m) := by rw [← p1, List.length_drop]
        obtain ⟨a, cap, rfl⟩ := h.rd.shapeR
        obtain ⟨cb, co, rfl, hcb, _⟩ := h.rd.at pl hpl
        have hws : IntKind.u64.wrap ((B.length : Int) - ((pl : Int) + (m : Int))) = (t.length : Int) := by rw [IntKind.wrap_u64]; omega
        by_cases hsh : t.length < x
        · rw [if_pos hsh, rres_error]
          have HM := hide (fun n => (h.drewN n).err 2)
          have hgt : t.length < x := hsh
          have hbl : (pl : Int) + (m : Int) ≤ (B.length : Int) := by omega
          clear h hu hC hm2 p1 hA hab htl
          generalize B.length = N at *
          generalize t.length = T at *
          go_enter Try.func66, Try.ntmps66
          go_wp2
          go_quiet (first | (go_at_call 79; exact Calls.quiet_of_same (unhide HC _)))
          go_wp2_with fail
          refine (unhide HA _).mono ?_
          rintro e w2 ⟨rfl, hw2⟩
          rw [hw2]
          clear hw2 w2
          go_wp2
          go_ret
          exact ⟨rfl, pl, (unhide HM _).1, rfl, (Fr.drewN _).trans (unhide HM _).2⟩
        · rw [if_neg hsh, rres_ok]
          have hgt : x ≤ t.length := by omega
          have HM := hide (fun n => (h.drewN n).move (pl + m + x) (by omega))
          have HP : Hid (B.drop (pl + m + x) = t.drop x) := by rw [← p1, List.drop_drop]; rfl
          have HT := hide (show (B.drop (pl + m)).take x = t.take x from by rw [p1])
          have HRd := hide (fun n => (h.drewN n).rd)
          have HBt := hide (p4.take x)
          obtain ⟨hcp, hcm⟩ := h.rd.cap_le
          have hbl : (pl : Int) + (m : Int) + (x : Int) ≤ (B.length : Int) := by omega
          have hcl : (pl : Int) + (m : Int) + (x : Int) ≤ (cap : Int) := by omega
          unfold maxLen at hcm
          by_cases hlt : pl + m < cap
          · have hcv := fun n => str_conv (w.drewN n) _ _ (((h.drewN n).rd).part (co + (pl + m)) (pl + m) x (by omega) (fun _ => rfl)) (by rw [unhide HT]; exact unhide HBt)
            rw [unhide HT] at hcv
            have hi2 : (pl : Int) + (m : Int) < (cap : Int) := by omega
            generalize toStr (t.take x) = s at *
            generalize B.length = N at *
            clear h hu hC hm2 p1 hA hab hsh htl HT HRd HBt
            go_enter Try.func66, Try.ntmps66
            go_wp2
            go_quiet (first | (go_at_call 79; exact Calls.quiet_of_same (unhide HC _)))
            go_wp2_with fail
            refine (unhide HA _).mono ?_
            rintro e w2 ⟨rfl, hw2⟩
            rw [hw2]
            clear hw2 w2
            go_wp2
            go_ret
            exact ⟨rfl, pl + m + x, (unhide HM _).1, unhide HP, (Fr.drewN _).trans (unhide HM _).2⟩
          · obtain rfl : x = 0 := by omega
            obtain rfl : cap = pl + m := by omega
            have hcv := fun n => str_conv (w.drewN n) _ _ (((h.drewN n).rd).part co (pl + m) 0 (by omega) (fun q => absurd rfl q)) (by rw [unhide HT]; exact unhide HBt)
            rw [unhide HT] at hcv
            rw [Nat.sub_self] at hcv
            generalize toStr (t.take 0) = s at *
            generalize B.length = N at *
            clear h hu hC hm2 p1 hA hab hsh htl HT HRd HBt
            go_enter Try.func66, Try.ntmps66
            go_wp2
            go_quiet (first | (go_at_call 79; exact Calls.quiet_of_same (unhide HC _)))
            go_wp2_with fail
            refine (unhide HA _).mono ?_
            rintro e w2 ⟨rfl, hw2⟩
            rw [hw2]
            clear hw2 w2
            go_wp2
            go_ret
            exact ⟨rfl, pl + m + 0, (unhide HM _).1, unhide HP, (Fr.drewN _).trans (unhide HM _).2⟩
  · rw [rres_bad _ _ _ _ he]
    have q0 : (e0 != 0) = true := by rw [bne_iff_ne]; exact he
    have H := hide h
    clear h he
    go_enter Try.func66, Try.ntmps66
    go_wp2
    go_ret
    exact ⟨rfl, pl, unhide H, rfl, RFr.refl _ _⟩
end Go.Proofs.Ytnfinplkeefdgaa
