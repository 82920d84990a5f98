/-
  HeapFirst: the law's walk.
-/
import Derived.Test.YtkpngfahnpidkaaFState
import Derived.Deep.CutRange
namespace Go.Proofs.Ytkpngfahnpidkaa
open Go.RowKit
set_option linter.unusedVariables false
set_option linter.unusedSimpArgs false

theorem bool_neq (b c : Bool) (w : World) : (binOp .neq 4 (.bool b) (.bool c)).run Try.prog w = .ok (.bool (b != c)) w := by cases b <;> cases c <;> kernel_rfl
theorem bool_eql (b c : Bool) (w : World) : (binOp .eql 4 (.bool b) (.bool c)).run Try.prog w = .ok (.bool (b == c)) w := by cases b <;> cases c <;> kernel_rfl
theorem pick64 (w : World) (z : Int) : Calls Try.prog 11 #[.int .i64 z, .int .i64 64] w fun e w' => e = .returned (.int .i64 ((pick z 64 : Nat) : Int)) ∧ w' = w := pick_any w z 64 (by omega) (by omega)
theorem pick9 (w : World) (z : Int) : Calls Try.prog 11 #[.int .i64 z, .int .i64 9] w fun e w' => e = .returned (.int .i64 ((pick z 9 : Nat) : Int)) ∧ w' = w := pick_any w z 9 (by omega) (by omega)
theorem Ro.tail {w : World} {g off cap : Nat} {p : Int × Int} {r : List (Int × Int)} (h : Ro w 2 (.slice (some ⟨g, off, none⟩) (r.length + 1) cap) (p :: r).length (flat (p :: r))) : Ro w 2 (.slice (some ⟨g, off + 2, none⟩) r.length (cap - 1)) r.length (flat r) := by
  have := h.past (k := 1) rfl (by simp)
  simpa [flat] using this
theorem Ro.tail1 {w : World} {g off : Nat} {p : Int × Int} {r : List (Int × Int)} (h : Ro w 2 (.slice (some ⟨g, off, none⟩) (r.length + 1) 1) (p :: r).length (flat (p :: r))) : Ro w 2 (.slice (some ⟨g, off, none⟩) r.length 0) r.length (flat r) := by
  obtain ⟨h1, h2⟩ := h
  rcases h2 with ⟨e, _⟩ | ⟨g', off', cap', cur, t, e, hh, h3, h4, h5, h6⟩
  · cases e
  · simp only [List.length_cons] at e
    cases e
    simp only [List.length_cons] at h3
    obtain rfl : r = [] := List.eq_nil_of_length_eq_zero (by omega)
    exact ⟨rfl, .inr ⟨g, off, 0, cur, t, rfl, hh, by simp, Nat.zero_le _, by omega, fun j hj => by simp at hj⟩⟩
theorem fj_start {w w1 w2 : World} {hb b m : Nat} {ov : Value} (h1 : Hp w1 hb 1000 0 ov []) (hw : hb = w.heap.size) (b1 : Below w.heap.size w w1) (hfs : ∀ k, Fts hb ov [] k → w.heap.size ≤ k) (N : Now w1 hb 1000 0 ov [] w2 (0 + (2 + (1 + (m : Int)))) ([] ++ [newChan b (1 + (m : Int))])) :
    ∃ ov' o, FJ w w.heap.size hb w2.heap.size (1 + m) false [] [] (.slice none 0 0) ov' o (w2.alloc (.cells #[.int .i64 9, .int .i64 0] 33)) := by
  obtain ⟨ov', H, f, hF⟩ := N
  have e : (0 + (2 + (1 + (m : Int)))) = ((2 + (1 + m) : Nat) : Int) := by omega
  rw [e] at H
  have hB : Below w2.heap.size w2 (w2.alloc (.cells #[.int .i64 9, .int .i64 0] 33)) := (Below.refl _ _).alloc (Nat.le_refl _) _
  have hs1 := b1.size
  have hs2 := f.size
  refine ⟨ov', newChan b (1 + (m : Int)), H.below hB, rfl, rfl, by show 1 + (m : Int) = _; omega, rfl, fun k hk => ?_, Ro.nil _ _, fun k hk => by simp [Value.ownBlock] at hk, by omega, Bx.new _ _ _ _, ?_, Nat.zero_le _⟩
  · have hlt := H.lt k hk
    refine ⟨?_, by omega, by simp [Value.ownBlock]⟩
    rcases hF k hk with q | q
    · exact hfs k q
    · omega
  · exact (b1.trans (f.below hs1 (fun k hk e => by have := hfs k e; omega))).trans (hB.mono (by omega))
set_option maxRecDepth 100000 in
set_option maxHeartbeats 12800000 in
theorem firstLaw (w : World) (room : Int) (v : Value) (ps : List OpD) (hR : RdO w v ps) (hN : ps.length ≤ 4611686018427387904) : Calls Try.prog 4 #[.int .i64 room, v] w fun e w' => e = .returned (.bool true) ∧ Below w.heap.size w w' := by
  obtain ⟨sa, scap, rfl, hcells⟩ := hR
  obtain ⟨L, hL⟩ : ∃ L, Hid (ps.length = L) := ⟨_, rfl⟩
  have HC := hide hcells
  rw [unhide hL] at hN ⊢
  have HP := hide (pick64 w room)
  have hm := pick_lt room (n := 64) (by omega)
  obtain ⟨m, em⟩ : ∃ m, pick room 64 = m := ⟨_, rfl⟩
  rw [em] at HP hm
  have HNEW := hide (new_any w 1000 0)
  clear hcells em
  have bn := bool_neq
  have be := bool_eql
  go_enter Try.func4, Try.ntmps4
  go_wp2_with fail
  refine (unhide HP).mono ?_
  rintro e1 w1 ⟨rfl, rfl⟩
  go_wp2_with fail
  refine (unhide HNEW).mono ?_
  rintro e2 w2 ⟨rfl, H1, hb1⟩
  rw [show max (1000 : Int) 0 = 1000 from rfl, show max (0 : Int) 0 = 0 from rfl] at H1
  have hfs : ∀ k, Fts w1.heap.size (.slice none 0 0) [] k → w1.heap.size ≤ k := fun k hk => by
    rcases hk.cases with e | e | ⟨i, o, ho, _⟩
    · omega
    · simp [Value.ownBlock] at e
    · simp at ho
  have HCH := hide (chan_ok H1 (by omega) (by omega) (1 + (m : Int)) (by omega) (by omega) (by omega) (by simp))
  have HS := hide (fun (w3 : World) (b : Nat) (N : Now w2 w1.heap.size 1000 0 (.slice none 0 0) [] w3 (0 + (2 + (1 + (m : Int)))) ([] ++ [newChan b (1 + (m : Int))])) => fj_start H1 rfl hb1 hfs N)
  have hlt := H1.hlt
  clear H1 hb1 hfs
  go_wp2_with fail
  refine (unhide HCH).mono ?_
  rintro e3 w3 ⟨rfl, b, N⟩
  obtain ⟨ov0, o0, J0⟩ := unhide HS w3 b N
  have HJ0 := hide J0
  clear N J0 HS HCH
  go_wp2_with fail
  go_loopg [9, 10, 11] L (fun g t9 t10 t11 wr => ∃ (i : Nat) (sh : Bool) (Q : List (Int × Int)) (qv ov : Value) (o : OD), Hid (i + g = L) ∧ t9 = qv ∧ t10 = .bool sh ∧ t11 = .int .i64 (i : Int) ∧ Hid (FJ w1 w1.heap.size w1.heap.size w3.heap.size (1 + m) sh Q Q qv ov o wr))
  case atStart => exact ⟨0, false, [], _, ov0, o0, by unfold Hid; omega, rfl, rfl, rfl, HJ0⟩
  case round =>
    obtain ⟨i, sh, Q, qv, ov, o, hi, rfl, rfl, rfl, hJ⟩ := hrel
    by_cases hlt' : i < L
    · obtain ⟨sb, so, rfl, hsb, hop⟩ := unhide HC i (by rw [unhide hL]; exact hlt')
      obtain ⟨_, p1, _, _, p4, p5, _⟩ := hop.below ((unhide hJ).bel) hsb
      obtain ⟨qa, qc, rfl, ql, qm⟩ := (unhide hJ).row.shape
      have hsw := Nat.lt_of_lt_of_le hsb (unhide hJ).bel.size
      have i0 : (0 : Int) ≤ (i : Int) := by omega
      have i1 : (i : Int) < (L : Int) := by omega
      generalize ps.getD i OpD.zero = p at *
      have HP9 := hide (pick9 (wr.alloc (.cells #[.int .i64 p.xk, .int .i64 p.xn] 33)) p.call)
      have hk9 := pick_lt p.call (n := 9) (by omega)
      obtain ⟨pk, epk⟩ : ∃ pk, pick p.call 9 = pk := ⟨_, rfl⟩
      rw [epk] at HP9 hk9
      clear hop epk
      go_wp2_with fail
      refine (unhide HP9).mono ?_
      rintro e4 wa ⟨rfl, ewa⟩
      have hBa : Below wr.heap.size wr wa := by rw [ewa]; exact (Below.refl _ _).alloc (Nat.le_refl _) _
      have hJa := hide ((unhide hJ).below hBa)
      have hX : Bx wa wr.heap.size p.xk p.xn := by rw [ewa]; exact Bx.new _ _ _ _
      have hza : wr.heap.size < wa.heap.size := hX.lt
      obtain ⟨x0, x1⟩ := hX
      obtain ⟨c0, c1⟩ := (unhide hJa).cbx
      have HXF : Hid (∀ k, Fts w1.heap.size ov [o] k → k ≠ wr.heap.size) := fun k hk e => by have := (unhide hJ).hp.lt k hk; omega
      have HXQ : Hid ((Value.slice qa Q.length qc).ownBlock ≠ some wr.heap.size) := fun e => by have := (unhide hJ).row.lt _ e; omega
      have hca := (unhide hJa).cbx.lt
      have hha := (unhide hJa).hp.hlt
      clear ewa p1 p4 p5 hBa hJ
      obtain ⟨X, eX⟩ : ∃ X, Hid (wr.heap.size = X) := ⟨_, rfl⟩
      rw [unhide eX] at x0 x1 hza HXF HXQ ⊢
      clear eX
      go_upto_if 88 with fail
      go_cut [56, 88] from 40 to 150 (fun t56 t88 wx => t56 = .int .i64 (pk : Int) ∧ t88 = .bool (decide (pk ≤ 3)) ∧ wx = wa)
      case first =>
        rcases (by omega : pk = 0 ∨ pk = 1 ∨ pk = 2 ∨ pk = 3 ∨ pk = 4 ∨ pk = 5 ∨ pk = 6 ∨ pk = 7 ∨ pk = 8) with rfl | rfl | rfl | rfl | rfl | rfl | rfl | rfl | rfl
        all_goals go_wp2_with fail
        all_goals go_meet
        all_goals exact ⟨rfl, rfl, rfl⟩
      case rest =>
        obtain ⟨rfl, rfl, rfl⟩ := hcut
        by_cases hs3 : pk ≤ 3
        · have d3 : decide (pk ≤ 3) = true := decide_eq_true hs3
          rw [d3]
          cases sh with
          | true =>
            have HS := hide (send_shut (unhide hJa).hp 9 0 p.xk p.xn (unhide hJa).nm (unhide hJa).ok (unhide hJa).os)
            · go_wp2_with fail
              refine (unhide HS).mono ?_
              rintro e5 w5 ⟨rfl, hb5⟩
              have hJ5 := hide ((unhide hJa).below hb5)
              clear hb5 c0 c1 hca hha x0 x1
              have HZ := size_chan (unhide hJ5).hp 9 0 (unhide hJ5).nm (unhide hJ5).ok
              rw [(unhide hJ5).oi] at HZ
              have HZ := hide HZ
              obtain ⟨c05, c15⟩ := (unhide hJ5).cbx
              have hc5 := (unhide hJ5).cbx.lt
              have hh5 := (unhide hJ5).hp.hlt
              go_wp2_with fail
              refine (unhide HZ).mono ?_
              rintro e6 w6 ⟨rfl, hb6⟩
              have hJ6 := hide ((unhide hJ5).below hb6)
              clear hb6
              go_wp2_with fail
              go_roundg (gk - 1)
              case measure => have := unhide hi; omega
              case rel => exact ⟨i + 1, true, Q, _, _, _, by have := unhide hi; unfold Hid; omega, by simp, rfl, by go_num, hJ6⟩
          | false =>
            by_cases hf : Q.length < 1 + m
            · have HS := hide (send_room (unhide hJa).hp 9 0 p.xk p.xn (unhide hJa).nm (unhide hJa).ok (unhide hJa).os (by rw [(unhide hJa).om, (unhide hJa).oi]; omega) (by rw [(unhide hJa).oi]; omega))
              have d5 : decide ((Q.length : Int) < 1 + (m : Int)) = true := decide_eq_true (by omega)
              · go_wp2_with fail
                refine (unhide HS).mono ?_
                rintro e5 w5 ⟨rfl, v5, N5⟩
                have N5' : Now wc w1.heap.size 1000 ((2 + (1 + m) : Nat) : Int) ov [o] w5 ((2 + (1 + m) : Nat) : Int) [{ o with iv := v5, its := o.its ++ [(p.xk, p.xn)] }] := N5
                obtain ⟨_, _, f5, _⟩ := N5
                obtain ⟨y0, y1⟩ := Bx.fr (b := X) ⟨x0, x1⟩ f5 (fun e => unhide HXF X e rfl)
                obtain ⟨ov5, J5⟩ := (unhide hJa).now N5' (unhide hJa).ok (Qh' := Q ++ [(p.xk, p.xn)]) (by show o.its ++ _ = _; rw [(unhide hJa).oi]) (unhide hJa).om (unhide hJa).os
                have hJ5 := hide J5
                have hy5 : X < w5.heap.size := World.block_lt_of_cell? _ _ y0
                have HRo := hide J5.row
                clear N5' f5 J5 c0 c1 hca hha x0 x1
                go_wp2_with (first | (at_builtin; refine wpList_appV rfl _ _ rfl (.slice qa Q.length qc) Q rfl ((unhide HRo).keep (fun g hg => Below.heap_alloc _ _ _ ((unhide HRo).lt g hg))) ⟨w5.heap.size, 0, none⟩ 1 p.xk p.xn rfl (two_new' _ _ _ _) (by omega) ?_))
                intro v7 w7 hr7 hg7 hat7
                obtain ⟨va, vc, rfl, _⟩ := hr7.shape
                have J7 := (unhide hJ5).queue (Qq' := Q ++ [(p.xk, p.xn)]) (((Fr.refl _ w5).alloc _).grown hg7 (fun k e => .inr e)) (by rw [List.length_append]; exact hr7) (by
                  rcases hat7 with q | q
                  · exact .inl q
                  · right; intro k hk; rw [q] at hk; cases hk; first | simp | omega) (by simp; omega)
                have hJ7 := hide J7
                clear J7 hr7 hg7 hat7 HRo y0 y1 hy5
                have HZ := size_chan (unhide hJ7).hp 9 0 (unhide hJ7).nm (unhide hJ7).ok
                rw [(unhide hJ7).oi] at HZ
                have HZ := hide HZ
                obtain ⟨c05, c15⟩ := (unhide hJ7).cbx
                have hc5 := (unhide hJ7).cbx.lt
                have hh5 := (unhide hJ7).hp.hlt
                go_wp2_with fail
                refine (unhide HZ).mono ?_
                rintro e6 w6 ⟨rfl, hb6⟩
                have hJ6 := hide ((unhide hJ7).below hb6)
                clear hb6
                go_wp2_with fail
                go_roundg (gk - 1)
                case measure => have := unhide hi; omega
                case rel => exact ⟨i + 1, false, (Q ++ [(p.xk, p.xn)]), _, _, _, by have := unhide hi; unfold Hid; omega, by simp, rfl, by go_num, hJ6⟩
            · have HS := hide (send_full (unhide hJa).hp 9 0 p.xk p.xn (unhide hJa).nm (unhide hJa).ok (unhide hJa).os (by rw [(unhide hJa).om, (unhide hJa).oi]; omega))
              have d5 : decide ((Q.length : Int) < 1 + (m : Int)) = false := decide_eq_false (by omega)
              · go_wp2_with fail
                refine (unhide HS).mono ?_
                rintro e5 w5 ⟨rfl, hb5⟩
                have hJ5 := hide ((unhide hJa).below hb5)
                clear hb5 c0 c1 hca hha x0 x1
                have HZ := size_chan (unhide hJ5).hp 9 0 (unhide hJ5).nm (unhide hJ5).ok
                rw [(unhide hJ5).oi] at HZ
                have HZ := hide HZ
                obtain ⟨c05, c15⟩ := (unhide hJ5).cbx
                have hc5 := (unhide hJ5).cbx.lt
                have hh5 := (unhide hJ5).hp.hlt
                go_wp2_with fail
                refine (unhide HZ).mono ?_
                rintro e6 w6 ⟨rfl, hb6⟩
                have hJ6 := hide ((unhide hJ5).below hb6)
                clear hb6
                go_wp2_with fail
                go_roundg (gk - 1)
                case measure => have := unhide hi; omega
                case rel => exact ⟨i + 1, false, Q, _, _, _, by have := unhide hi; unfold Hid; omega, by simp, rfl, by go_num, hJ6⟩
        · have d3 : decide (pk ≤ 3) = false := decide_eq_false hs3
          rw [d3]
          by_cases hs8 : pk = 8
          · subst hs8
            cases sh with
            | true =>
              have HS := hide (shut_shut (unhide hJa).hp 9 0 (unhide hJa).nm (unhide hJa).ok (unhide hJa).os)
              go_wp2_with fail
              refine (unhide HS).mono ?_
              rintro e5 w5 ⟨rfl, hb5⟩
              have hJ5 := hide ((unhide hJa).below hb5)
              clear hb5 c0 c1 hca hha x0 x1
              have HZ := size_chan (unhide hJ5).hp 9 0 (unhide hJ5).nm (unhide hJ5).ok
              rw [(unhide hJ5).oi] at HZ
              have HZ := hide HZ
              obtain ⟨c05, c15⟩ := (unhide hJ5).cbx
              have hc5 := (unhide hJ5).cbx.lt
              have hh5 := (unhide hJ5).hp.hlt
              go_wp2_with fail
              refine (unhide HZ).mono ?_
              rintro e6 w6 ⟨rfl, hb6⟩
              have hJ6 := hide ((unhide hJ5).below hb6)
              clear hb6
              go_wp2_with fail
              go_roundg (gk - 1)
              case measure => have := unhide hi; omega
              case rel => exact ⟨i + 1, true, Q, _, _, _, by have := unhide hi; unfold Hid; omega, by simp, rfl, by go_num, hJ6⟩
            | false =>
              have HS := hide (shut_open (unhide hJa).hp 9 0 (unhide hJa).nm (unhide hJa).ok (unhide hJa).os)
              go_wp2_with fail
              refine (unhide HS).mono ?_
              rintro e5 w5 ⟨rfl, N5⟩
              have N5' : Now wc w1.heap.size 1000 ((2 + (1 + m) : Nat) : Int) ov [o] w5 ((2 + (1 + m) : Nat) : Int) [{ o with shut := true }] := N5
              obtain ⟨ov5, J5⟩ := (unhide hJa).now N5' (unhide hJa).ok (unhide hJa).oi (unhide hJa).om rfl
              have hJ5 := hide J5
              clear N5 N5' J5 c0 c1 hca hha x0 x1
              have HZ := size_chan (unhide hJ5).hp 9 0 (unhide hJ5).nm (unhide hJ5).ok
              rw [(unhide hJ5).oi] at HZ
              have HZ := hide HZ
              obtain ⟨c05, c15⟩ := (unhide hJ5).cbx
              have hc5 := (unhide hJ5).cbx.lt
              have hh5 := (unhide hJ5).hp.hlt
              go_wp2_with fail
              refine (unhide HZ).mono ?_
              rintro e6 w6 ⟨rfl, hb6⟩
              have hJ6 := hide ((unhide hJ5).below hb6)
              clear hb6
              go_wp2_with fail
              go_roundg (gk - 1)
              case measure => have := unhide hi; omega
              case rel => exact ⟨i + 1, true, Q, _, _, _, by have := unhide hi; unfold Hid; omega, by simp, rfl, by go_num, hJ6⟩
          · cases Q with
            | nil =>
              cases sh with
              | true =>
                have HS := recv_empty (unhide hJa).hp 9 0 (unhide hJa).nm (unhide hJa).ok (unhide hJa).oi
                rw [(unhide hJa).os] at HS
                have HS := hide HS
                have d8 : ((pk : Int) == 8) = false := by simp; omega
                have d9 : decide ((pk : Int) = 8) = false := decide_eq_false (by omega)
                have d10 : ¬ ((pk : Int) = 8) := by omega
                have d11 : ¬ (pk = 8) := hs8
                · go_wp2_with fail
                  refine (unhide HS).mono ?_
                  rintro e5 w5 ⟨rfl, hb5⟩
                  have hJ5 := hide ((unhide hJa).below (hb5.trans (((Below.refl _ w5).alloc (Nat.le_refl _) (.cells #[.int .i64 0, .int .i64 0] 33)).mono hb5.size)))
                  have hJ5' := hide ((unhide hJ5).below ((Below.refl _ _).alloc (Nat.le_refl _) (.cells #[.int .i64 0, .int .i64 0] 33)))
                  clear hb5 c0 c1 hca hha x0 x1
                  have HZ := size_chan (unhide hJ5').hp 9 0 (unhide hJ5').nm (unhide hJ5').ok
                  rw [(unhide hJ5').oi] at HZ
                  have HZ := hide HZ
                  obtain ⟨c05, c15⟩ := (unhide hJ5').cbx
                  have hc5 := (unhide hJ5').cbx.lt
                  have hh5 := (unhide hJ5').hp.hlt
                  go_wp2_with fail
                  refine (unhide HZ).mono ?_
                  rintro e6 w6 ⟨rfl, hb6⟩
                  have hJ6 := hide ((unhide hJ5').below hb6)
                  clear hb6
                  go_wp2_with fail
                  go_roundg (gk - 1)
                  case measure => have := unhide hi; omega
                  case rel => exact ⟨i + 1, true, [], _, _, _, by have := unhide hi; unfold Hid; omega, by simp, rfl, by go_num, hJ6⟩
              | false =>
                have HS := recv_empty (unhide hJa).hp 9 0 (unhide hJa).nm (unhide hJa).ok (unhide hJa).oi
                rw [(unhide hJa).os] at HS
                have HS := hide HS
                have d8 : ((pk : Int) == 8) = false := by simp; omega
                have d9 : decide ((pk : Int) = 8) = false := decide_eq_false (by omega)
                have d10 : ¬ ((pk : Int) = 8) := by omega
                have d11 : ¬ (pk = 8) := hs8
                · go_wp2_with fail
                  refine (unhide HS).mono ?_
                  rintro e5 w5 ⟨rfl, hb5⟩
                  have hJ5 := hide ((unhide hJa).below (hb5.trans (((Below.refl _ w5).alloc (Nat.le_refl _) (.cells #[.int .i64 0, .int .i64 0] 33)).mono hb5.size)))
                  have hJ5' := hide ((unhide hJ5).below ((Below.refl _ _).alloc (Nat.le_refl _) (.cells #[.int .i64 0, .int .i64 0] 33)))
                  clear hb5 c0 c1 hca hha x0 x1
                  have HZ := size_chan (unhide hJ5').hp 9 0 (unhide hJ5').nm (unhide hJ5').ok
                  rw [(unhide hJ5').oi] at HZ
                  have HZ := hide HZ
                  obtain ⟨c05, c15⟩ := (unhide hJ5').cbx
                  have hc5 := (unhide hJ5').cbx.lt
                  have hh5 := (unhide hJ5').hp.hlt
                  go_wp2_with fail
                  refine (unhide HZ).mono ?_
                  rintro e6 w6 ⟨rfl, hb6⟩
                  have hJ6 := hide ((unhide hJ5').below hb6)
                  clear hb6
                  go_wp2_with fail
                  go_roundg (gk - 1)
                  case measure => have := unhide hi; omega
                  case rel => exact ⟨i + 1, false, [], _, _, _, by have := unhide hi; unfold Hid; omega, by simp, rfl, by go_num, hJ6⟩
            | cons q r =>
              obtain ⟨qk, qn⟩ := q
              cases sh with
              | true =>
                have HS := hide (recv_some (unhide hJa).hp 9 0 (unhide hJa).nm (unhide hJa).ok (unhide hJa).oi)
                have d8 : ((pk : Int) == 8) = false := by simp; omega
                have d9 : decide ((pk : Int) = 8) = false := decide_eq_false (by omega)
                have d10 : ¬ ((pk : Int) = 8) := by omega
                have d11 : ¬ (pk = 8) := hs8
                · go_wp2_with fail
                  refine (unhide HS).mono ?_
                  rintro e5 w5 ⟨rfl, v5, N5⟩
                  have N5' : Now wc w1.heap.size 1000 ((2 + (1 + m) : Nat) : Int) ov [o] w5 ((2 + (1 + m) : Nat) : Int) [{ o with iv := v5, its := r }] := N5
                  obtain ⟨ov5, J5⟩ := (unhide hJa).now N5' (unhide hJa).ok (Qh' := r) rfl (unhide hJa).om (unhide hJa).os
                  obtain ⟨g, off, cap, ie, icl, icm, hgl, hcell⟩ := J5.row.full (by simp)
                  simp only [List.length_cons] at hcell
                  have g0 : w5.cell? ⟨g, off, none⟩ = some (.int .i64 qk) := by have := hcell 0 (by omega); simpa [flat] using this
                  have g1 : w5.cell? ⟨g, off + 1, none⟩ = some (.int .i64 qn) := by have := hcell 1 (by omega); simpa [flat] using this
                  cases ie
                  simp only [List.length_cons] at icl
                  have hrow := J5.row
                  have hqn := J5.qn
                  have hJ5 := hide J5
                  clear N5 N5' J5 c0 c1 hca hha x0 x1 hcell
                  by_cases hc1 : qc = 1
                  · subst hc1
                    obtain rfl : r = [] := List.eq_nil_of_length_eq_zero (by omega)
                    have hJ6 := hide ((((unhide hJ5).queue (Fr.refl _ w5) (Ro.tail1 hrow) (.inl rfl) (by simp at hqn; omega)).below ((Below.refl _ _).alloc (Nat.le_refl _) (.cells #[.int .i64 qk, .int .i64 qn] 33))).below ((Below.refl _ _).alloc (Nat.le_refl _) (.cells #[.int .i64 qk, .int .i64 qn] 33)))
                    clear hrow hqn
                    have HZ := size_chan (unhide hJ6).hp 9 0 (unhide hJ6).nm (unhide hJ6).ok
                    rw [(unhide hJ6).oi] at HZ
                    have HZ := hide HZ
                    obtain ⟨c05, c15⟩ := (unhide hJ6).cbx
                    have hc5 := (unhide hJ6).cbx.lt
                    have hh5 := (unhide hJ6).hp.hlt
                    go_wp2_with fail
                    refine (unhide HZ).mono ?_
                    rintro e6 w6 ⟨rfl, hb6⟩
                    have hJ8 := hide ((unhide hJ6).below hb6)
                    clear hb6
                    go_wp2_with fail
                    go_roundg (gk - 1)
                    case measure => have := unhide hi; omega
                    case rel => exact ⟨i + 1, true, [], _, _, _, by have := unhide hi; unfold Hid; omega, by simp, rfl, by go_num, hJ8⟩
                  · have hJ6 := hide ((((unhide hJ5).queue (Fr.refl _ w5) (Ro.tail hrow) (.inl rfl) (by simp at hqn; omega)).below ((Below.refl _ _).alloc (Nat.le_refl _) (.cells #[.int .i64 qk, .int .i64 qn] 33))).below ((Below.refl _ _).alloc (Nat.le_refl _) (.cells #[.int .i64 qk, .int .i64 qn] 33)))
                    clear hrow hqn
                    have HZ := size_chan (unhide hJ6).hp 9 0 (unhide hJ6).nm (unhide hJ6).ok
                    rw [(unhide hJ6).oi] at HZ
                    have HZ := hide HZ
                    obtain ⟨c05, c15⟩ := (unhide hJ6).cbx
                    have hc5 := (unhide hJ6).cbx.lt
                    have hh5 := (unhide hJ6).hp.hlt
                    go_wp2_with fail
                    refine (unhide HZ).mono ?_
                    rintro e6 w6 ⟨rfl, hb6⟩
                    have hJ8 := hide ((unhide hJ6).below hb6)
                    clear hb6
                    go_wp2_with fail
                    go_roundg (gk - 1)
                    case measure => have := unhide hi; omega
                    case rel => exact ⟨i + 1, true, r, _, _, _, by have := unhide hi; unfold Hid; omega, by simp, rfl, by go_num, hJ8⟩
              | false =>
                have HS := hide (recv_some (unhide hJa).hp 9 0 (unhide hJa).nm (unhide hJa).ok (unhide hJa).oi)
                have d8 : ((pk : Int) == 8) = false := by simp; omega
                have d9 : decide ((pk : Int) = 8) = false := decide_eq_false (by omega)
                have d10 : ¬ ((pk : Int) = 8) := by omega
                have d11 : ¬ (pk = 8) := hs8
                · go_wp2_with fail
                  refine (unhide HS).mono ?_
                  rintro e5 w5 ⟨rfl, v5, N5⟩
                  have N5' : Now wc w1.heap.size 1000 ((2 + (1 + m) : Nat) : Int) ov [o] w5 ((2 + (1 + m) : Nat) : Int) [{ o with iv := v5, its := r }] := N5
                  obtain ⟨ov5, J5⟩ := (unhide hJa).now N5' (unhide hJa).ok (Qh' := r) rfl (unhide hJa).om (unhide hJa).os
                  obtain ⟨g, off, cap, ie, icl, icm, hgl, hcell⟩ := J5.row.full (by simp)
                  simp only [List.length_cons] at hcell
                  have g0 : w5.cell? ⟨g, off, none⟩ = some (.int .i64 qk) := by have := hcell 0 (by omega); simpa [flat] using this
                  have g1 : w5.cell? ⟨g, off + 1, none⟩ = some (.int .i64 qn) := by have := hcell 1 (by omega); simpa [flat] using this
                  cases ie
                  simp only [List.length_cons] at icl
                  have hrow := J5.row
                  have hqn := J5.qn
                  have hJ5 := hide J5
                  clear N5 N5' J5 c0 c1 hca hha x0 x1 hcell
                  by_cases hc1 : qc = 1
                  · subst hc1
                    obtain rfl : r = [] := List.eq_nil_of_length_eq_zero (by omega)
                    have hJ6 := hide ((((unhide hJ5).queue (Fr.refl _ w5) (Ro.tail1 hrow) (.inl rfl) (by simp at hqn; omega)).below ((Below.refl _ _).alloc (Nat.le_refl _) (.cells #[.int .i64 qk, .int .i64 qn] 33))).below ((Below.refl _ _).alloc (Nat.le_refl _) (.cells #[.int .i64 qk, .int .i64 qn] 33)))
                    clear hrow hqn
                    have HZ := size_chan (unhide hJ6).hp 9 0 (unhide hJ6).nm (unhide hJ6).ok
                    rw [(unhide hJ6).oi] at HZ
                    have HZ := hide HZ
                    obtain ⟨c05, c15⟩ := (unhide hJ6).cbx
                    have hc5 := (unhide hJ6).cbx.lt
                    have hh5 := (unhide hJ6).hp.hlt
                    go_wp2_with fail
                    refine (unhide HZ).mono ?_
                    rintro e6 w6 ⟨rfl, hb6⟩
                    have hJ8 := hide ((unhide hJ6).below hb6)
                    clear hb6
                    go_wp2_with fail
                    go_roundg (gk - 1)
                    case measure => have := unhide hi; omega
                    case rel => exact ⟨i + 1, false, [], _, _, _, by have := unhide hi; unfold Hid; omega, by simp, rfl, by go_num, hJ8⟩
                  · have hJ6 := hide ((((unhide hJ5).queue (Fr.refl _ w5) (Ro.tail hrow) (.inl rfl) (by simp at hqn; omega)).below ((Below.refl _ _).alloc (Nat.le_refl _) (.cells #[.int .i64 qk, .int .i64 qn] 33))).below ((Below.refl _ _).alloc (Nat.le_refl _) (.cells #[.int .i64 qk, .int .i64 qn] 33)))
                    clear hrow hqn
                    have HZ := size_chan (unhide hJ6).hp 9 0 (unhide hJ6).nm (unhide hJ6).ok
                    rw [(unhide hJ6).oi] at HZ
                    have HZ := hide HZ
                    obtain ⟨c05, c15⟩ := (unhide hJ6).cbx
                    have hc5 := (unhide hJ6).cbx.lt
                    have hh5 := (unhide hJ6).hp.hlt
                    go_wp2_with fail
                    refine (unhide HZ).mono ?_
                    rintro e6 w6 ⟨rfl, hb6⟩
                    have hJ8 := hide ((unhide hJ6).below hb6)
                    clear hb6
                    go_wp2_with fail
                    go_roundg (gk - 1)
                    case measure => have := unhide hi; omega
                    case rel => exact ⟨i + 1, false, r, _, _, _, by have := unhide hi; unfold Hid; omega, by simp, rfl, by go_num, hJ8⟩
    · have hiL : i = L := by have := unhide hi; omega
      subst hiL
      have HSP := hide (spent_any (unhide hJ).hp)
      have HLE := hide (len_any (unhide hJ).hp)
      go_wp2_with fail
      refine (unhide HSP).mono ?_
      rintro e5 w5 ⟨rfl, rfl⟩
      go_wp2_with fail
      refine (unhide HLE).mono ?_
      rintro e6 w6 ⟨rfl, rfl⟩
      go_wp2_with fail
      go_ret
      exact ⟨rfl, (unhide hJ).bel⟩
end Go.Proofs.Ytkpngfahnpidkaa
