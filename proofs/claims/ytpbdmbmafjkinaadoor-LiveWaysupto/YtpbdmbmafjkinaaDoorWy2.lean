/-
  What one block does to a register: the law's own way.
-/
import Derived.Test.YtpbdmbmafjkinaaDoorWy1
namespace Go.Proofs.YtpbdmbmafjkinaaDoor
open Go.RowKit
set_option linter.unusedVariables false
set_option linter.unusedSimpArgs false
set_option maxRecDepth 100000 in
set_option maxHeartbeats 6400000 in
theorem along_any {w : World} {D : Nat → Prop} {bl : List Bk} {b : Nat} {u : Bk} {iv : Value} {g n : Nat} (h : InsV D w u.ins iv) (hO : OkL u) (hn : u.ins.length = n) (hr : Ro w 1 (.slice (some ⟨g, 0, none⟩) n n) n (flt enBo (rowG (wS bl b) u.ins 0))) (i r : Nat) (hi : i ≤ n) :
    Calls Tryd.prog 35 #[iv, .slice (some ⟨g, 0, none⟩) n n, .int .i64 (i : Int), .int .i64 (r : Int)] w fun e w' => e = .returned (.int .i64 (alB bl b u i r : Int)) ∧ Below w.heap.size w w' := by
  obtain ⟨ia, ic, rfl, hi1, hi2⟩ := NV.shape h
  obtain ⟨RR, hRR⟩ : ∃ z, Hid (wS bl b = z) := ⟨_, hide rfl⟩
  obtain ⟨A, hA⟩ : ∃ A, Hid (alB bl b u i r = A) := ⟨_, hide rfl⟩
  have hn8 : n ≤ 1048576 := by rw [← hn]; exact hO.1
  have HOX : Hid (∀ x ∈ u.ins, OkX x) := fun x hx => hO.2.2 x hx
  have HH := hide h
  have HR := hide hr
  have HN := hide hn
  unfold maxLen at hi2
  rw [unhide HN] at hi1 HH ⊢
  rw [unhide hA]
  clear h hO hr hn
  have HI0 : Hid (Below w.heap.size w w ∧ alB bl b u i r = A) := ⟨Below.refl _ _, unhide hA⟩
  go_enter Tryd.func35, Tryd.ntmps35
  go_wp2_with fail
  go_loopg [9] (n - i) (fun gg t9 wr => ∃ j : Nat, Hid (j + gg = n ∧ j ≤ n) ∧ t9 = .int .i64 (j : Int) ∧ Hid (Below w.heap.size w wr ∧ alB bl b u j r = A))
  case atStart => exact ⟨i, ⟨by omega, hi⟩, rfl, HI0⟩
  case round =>
    clear HI0
    obtain ⟨j, hj, rfl, hG⟩ := hrel
    by_cases hlt : j < n
    · have j0 : (0 : Int) ≤ (j : Int) := by omega
      have j1 : (j : Int) < (n : Int) := by omega
      have hjl : j < u.ins.length := by rw [unhide HN]; exact hlt
      obtain ⟨x, hx⟩ : ∃ x, u.ins[j]? = some x := ⟨_, List.getElem?_eq_getElem hjl⟩
      obtain ⟨gg, goff, gcap, eg, _, _, hgb, hgc⟩ := (unhide HR).full (by omega)
      cases eg
      have hrc := hgc j (by omega)
      have hrv : (flt enBo (rowG (wS bl b) u.ins 0))[j]? = some (.bool (gone (wS bl b) u.ins j)) := by
        have q := flt_at zBo (rowG_at (wS bl b) u.ins 0 hjl) 0 (by omega)
        simpa [enBo] using q
      rw [hrv, Nat.zero_add] at hrc
      have hrc2 := ((unhide hG).1.cell (p := ⟨g, j, none⟩) hgb).trans hrc
      have hgl := Nat.lt_of_lt_of_le hgb (unhide hG).1.size
      obtain ⟨ib, io, aa, ac, ea, ec, e4, hib, hP, ha1, ha2, he1, he2, hcx⟩ := InsV.at8 (unhide HH) hx
      subst e4
      have HQ := hide (asksL_any (w := wr) (InP.mv _ _ _ _ _ _ _ hP (Fr.of_below (S := fun _ => False) (unhide hG).1) (fun k hk d => ⟨fun e => e, d⟩)) r (unhide HOX x (List.mem_of_getElem? hx)).1 (unhide HOX x (List.mem_of_getElem? hx)).2.1 (unhide HOX x (List.mem_of_getElem? hx)).2.2)
      unfold inV at HQ
      dsimp only at HQ
      obtain ⟨AL, hAL⟩ : ∃ z, Hid (x.args.length = z) := ⟨_, hide rfl⟩
      obtain ⟨EL, hEL⟩ : ∃ z, Hid (x.ex.length = z) := ⟨_, hide rfl⟩
      rw [unhide hAL, unhide hEL] at hcx HQ
      obtain ⟨k0, k1, k2, k3, k4, k5, k6, k7, k8⟩ := hcx wr (unhide hG).1
      have HCX := hide hcx
      have HX := hide hx
      clear hrc hrv hgc hcx hP hx
      cases hg : gone (wS bl b) u.ins j with
      | true =>
        rw [hg] at hrc2
        have HG2 : Hid (Below w.heap.size w wr ∧ alB bl b u (j + 1) r = A) := ⟨(unhide hG).1, by rw [← alB_gone (unhide HX) hg]; exact (unhide hG).2⟩
        clear hg hG HQ
        go_wp2_with fail
        go_roundg (gk - 1)
        case measure => have := (unhide hj).1; omega
        case rel => exact ⟨j + 1, ⟨by have := (unhide hj).1; omega, by omega⟩, by go_num, HG2⟩
      | false =>
        rw [hg] at hrc2
        have hst := alB_stay (r := r) (unhide HX) hg
        rw [(unhide hG).2] at hst
        have HBW := hide (unhide hG).1
        cases hak : askE x r with
        | true =>
          rw [if_pos hak] at hst
          rw [hak] at HQ
          have HST := hide hst
          clear hg hG hak hst
          go_wp2_with fail
          refine (unhide HQ).mono ?_
          rintro e W1 ⟨rfl, b1⟩
          have HB1 := hide (bl_past (unhide HBW) b1)
          clear b1
          go_wp2_with fail
          first | go_ret | go_end0
          exact ⟨by rw [unhide HST]; rfl, unhide HB1⟩
        | false =>
          rw [if_neg (by rw [hak]; exact Bool.false_ne_true)] at hst
          rw [hak] at HQ
          by_cases hd : x.dst = (r : Int)
          · rw [if_pos hd] at hst
            have HST := hide hst
            have HD := hide hd
            clear hg hG hak hst hd
            go_wp2_with fail
            refine (unhide HQ).mono ?_
            rintro e W1 ⟨rfl, b1⟩
            have HB1 := hide (bl_past (unhide HBW) b1)
            obtain ⟨s0, s1, s2, s3, s4, s5, s6, s7, s8⟩ := unhide HCX W1 (unhide HB1)
            rw [unhide HD] at s3
            clear b1 k0 k1 k2 k3 k4 k5 k6 k7 k8
            go_wp2_with fail
            first | go_ret | go_end0
            exact ⟨by rw [unhide HST]; rfl, unhide HB1⟩
          · rw [if_neg hd] at hst
            have HG2 : Hid (∀ V, Below w.heap.size w V → Below w.heap.size w V ∧ alB bl b u (j + 1) r = A) := fun V hV => ⟨hV, hst.symm⟩
            have hd0 : (x.dst == (r : Int)) = false := by simp [hd]
            have hd1 : decide (x.dst = (r : Int)) = false := by simp [hd]
            clear hg hG hak hst hd
            go_wp2_with fail
            refine (unhide HQ).mono ?_
            rintro e W1 ⟨rfl, b1⟩
            have HB1 := hide (bl_past (unhide HBW) b1)
            obtain ⟨s0, s1, s2, s3, s4, s5, s6, s7, s8⟩ := unhide HCX W1 (unhide HB1)
            clear b1 k0 k1 k2 k3 k4 k5 k6 k7 k8
            have HG3 := hide (unhide HG2 W1 (unhide HB1))
            go_wp2_with fail
            go_roundg (gk - 1)
            case measure => have := (unhide hj).1; omega
            case rel => exact ⟨j + 1, ⟨by have := (unhide hj).1; omega, by omega⟩, by go_num, HG3⟩
    · have hjn : j = n := by have := (unhide hj).2; omega
      have j1 : ¬ (j : Int) < (n : Int) := by omega
      have HA0 : Hid (A = 0) := by rw [Hid, ← (unhide hG).2]; exact alB_end (by rw [unhide HN]; omega)
      have HBW := hide (unhide hG).1
      clear hG hjn
      go_wp2_with fail
      first | go_ret | go_end0
      exact ⟨by rw [unhide HA0]; rfl, unhide HBW⟩
end Go.Proofs.YtpbdmbmafjkinaaDoor
