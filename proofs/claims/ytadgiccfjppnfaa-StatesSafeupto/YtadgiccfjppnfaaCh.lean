/-
  The channel that a slot names.
-/
import Derived.Test.YtadgiccfjppnfaaNm
namespace Go.Proofs.Ytadgiccfjppnfaa
open Go.RowKit
set_option linter.unusedVariables false
set_option linter.unusedSimpArgs false
/-- The channel that the slot names which has so many others upon it. -/
def chF (os : List Ob) (sl : List (Int × Int)) (up : Nat) : Option Ob :=
  if up < sl.length then (sl[sl.length - 1 - up]?).bind (fun v => if v.1 = 9 then nmO os v else none) else none
/-- What channel answers. -/
def ChP (w : World) (r : Option Ob) (e : Ending) (w' : World) : Prop :=
  ∃ o ia ic ka kc, e = .returned (.tuple #[.agg #[.int .i64 o.kind, .slice ia o.its.length ic, .slice ka o.keys.length kc, .int .i64 o.fn, .int .i64 o.cap, .bool o.shut], .bool r.isSome]) ∧ r.getD ⟨0, [], [], 0, 0, false⟩ = o ∧ Below w.heap.size w w'
set_option maxRecDepth 100000 in
set_option maxHeartbeats 6400000 in
theorem channel_any {w : World} {v lv : Value} {s : St} (h : StV w v s) {sl : List (Int × Int)} (hl : Rx w 2 lv sl.length (flt enI sl)) (up : Nat) (hup : up ≤ 1) (hN : sl.length ≤ 1048576) : Calls Try.prog 53 #[v, lv, .int .i64 up] w (ChP w (chF s.objs sl up)) := by
  obtain ⟨ta, tc, oa, oc, ba, bc, rfl, -, ro, -, t1, t2, o1, o2, b1, b2⟩ := h.shape
  have HO := hide ro
  have HT2 := hide t2
  unfold maxLen at t2 o2 b2
  have HL := hide (fun i p (hp : sl[i]? = some p) => hl.elem zI hp)
  obtain ⟨la, lc, rfl, l1, l2⟩ := hl.shape
  unfold maxLen at l2
  obtain ⟨NT, hNT⟩ : ∃ n, Hid (s.texts.length = n) := ⟨_, hide rfl⟩
  obtain ⟨NO, hNO⟩ : ∃ n, Hid (s.objs.length = n) := ⟨_, hide rfl⟩
  obtain ⟨NB, hNB⟩ : ∃ n, Hid (s.fibs.length = n) := ⟨_, hide rfl⟩
  obtain ⟨L, hL⟩ : ∃ n, Hid (sl.length = n) := ⟨_, hide rfl⟩
  rw [unhide hNT, unhide hNO, unhide hNB]
  rw [unhide hL] at l1 hN ⊢
  rw [unhide hNT] at t1
  rw [unhide hNO] at o1 HO
  clear h hl ro
  by_cases hlt : up < L
  case neg =>
    have HCH : Hid (chF s.objs sl up = none) := by unfold chF; rw [if_neg (by rw [unhide hL]; exact hlt)]; exact hide rfl
    have d1 : decide ((L : Int) ≤ (up : Int)) = true := decide_eq_true (by omega)
    have d2 : L ≤ up := by omega
    have HBW : Hid (∀ O1 O2, Below w.heap.size w ((w.alloc O1).alloc O2)) := bl_two w
    go_enter Try.func53, Try.ntmps53
    go_wp2_with fail
    refine bodyPost_ret (v := .tuple #[.agg #[.int .i64 0, .slice none 0 0, .slice none 0 0, .int .i64 0, .int .i64 0, .bool false], .bool false]) ?_ rfl ?_
    · rw [results_cell_tmp rfl]
      go_simp
    · have hP : ∀ W, Below w.heap.size w W → ChP w (chF s.objs sl up) (.returned (.tuple #[.agg #[.int .i64 0, .slice none 0 0, .slice none 0 0, .int .i64 0, .int .i64 0, .bool false], .bool false])) W := fun W hW => by rw [unhide HCH]; exact ⟨⟨0, [], [], 0, 0, false⟩, none, 0, none, 0, rfl, rfl, hW⟩
      apply hP
      repeat (first | exact unhide HBW _ _ | refine Below.setCell ?_ (by first | (simp; done) | (simp; omega)) _)
  have hil : L - 1 - up < sl.length := by rw [unhide hL]; omega
  obtain ⟨x, hx⟩ : ∃ x, sl[L - 1 - up]? = some x := ⟨_, List.getElem?_eq_getElem hil⟩
  obtain ⟨b, off, _, ea, _, _, hb, hcs⟩ := unhide HL _ x hx
  cases ea
  have HC1 : Hid (chF s.objs sl up = if x.1 = 9 then nmO s.objs x else none) := by unfold chF; rw [if_pos (by rw [unhide hL]; exact hlt), unhide hL, hx]; exact hide rfl
  obtain ⟨x1, x2⟩ := x
  simp only at HC1
  obtain ⟨D, hD⟩ : ∃ n, Hid (L - 1 - up = n) := ⟨_, hide rfl⟩
  rw [unhide hD] at hcs
  have c0 : w.cell? ⟨b, off + D * 2, none⟩ = some (.int .i64 x1) := hcs 0 _ rfl
  have c1 : w.cell? ⟨b, off + D * 2 + 1, none⟩ = some (.int .i64 x2) := hcs 1 _ rfl
  have hDe := unhide hD
  have e1 : IntKind.i64.wrap ((L : Int) - 1) = ((L - 1 : Nat) : Int) := by rw [show (L : Int) - 1 = ((L - 1 : Nat) : Int) by omega]; go_arith
  have e2 : IntKind.i64.wrap (((L - 1 : Nat) : Int) - (up : Int)) = (D : Int) := by rw [show ((L - 1 : Nat) : Int) - (up : Int) = (D : Int) by omega]; go_arith
  have D0 : (0 : Int) ≤ (D : Int) := by omega
  have D1 : (D : Int) < (L : Int) := by omega
  have d1 : decide ((L : Int) ≤ (up : Int)) = false := decide_eq_false (by omega)
  have d2 : ¬ L ≤ up := by omega
  have HBW : Hid (∀ O1 O2 O3, Below w.heap.size w (((w.alloc O1).alloc O2).alloc O3)) := bl_three w
  clear hcs hx hil HL hDe hD hlt
  by_cases hx9 : x1 = 9
  case neg =>
    have HCH : Hid (chF s.objs sl up = none) := by have := unhide HC1; rw [if_neg hx9] at this; exact this
    have d9 : (x1 != 9) = true := by simpa using hx9
    have d9' : (x1 == 9) = false := by simpa using hx9
    clear hx9 HC1 HO
    go_enter Try.func53, Try.ntmps53
    go_wp2_with fail
    refine bodyPost_ret (v := .tuple #[.agg #[.int .i64 0, .slice none 0 0, .slice none 0 0, .int .i64 0, .int .i64 0, .bool false], .bool false]) ?_ rfl ?_
    · rw [results_cell_tmp rfl]
      go_simp
    · have hP : ∀ W, Below w.heap.size w W → ChP w (chF s.objs sl up) (.returned (.tuple #[.agg #[.int .i64 0, .slice none 0 0, .slice none 0 0, .int .i64 0, .int .i64 0, .bool false], .bool false])) W := fun W hW => by rw [unhide HCH]; exact ⟨⟨0, [], [], 0, 0, false⟩, none, 0, none, 0, rfl, rfl, hW⟩
      apply hP
      repeat (first | exact unhide HBW _ _ _ | refine Below.setCell ?_ (by first | (simp; done) | (simp; omega)) _)
  subst hx9
  rw [if_pos rfl] at HC1
  have HNM : Hid (∀ O2 O3, Calls Try.prog 61 #[.pointer (some ⟨w.heap.size, 0, none⟩), .agg #[.int .i64 9, .int .i64 x2]] (((w.alloc (.cells #[.slice ta NT tc, .slice oa NO oc, .slice ba NB bc, .int .i64 s.cur, .int .i64 s.steps, .int .i64 s.spent, .int .i64 s.read] 26)).alloc O2).alloc O3) fun e w' => e = .returned (.bool (nmB NT s.objs (9, x2))) ∧ Below (((w.alloc (.cells #[.slice ta NT tc, .slice oa NO oc, .slice ba NB bc, .int .i64 s.cur, .int .i64 s.steps, .int .i64 s.spent, .int .i64 s.read] 26)).alloc O2).alloc O3).heap.size (((w.alloc (.cells #[.slice ta NT tc, .slice oa NO oc, .slice ba NB bc, .int .i64 s.cur, .int .i64 s.steps, .int .i64 s.spent, .int .i64 s.read] 26)).alloc O2).alloc O3) w') := fun O2 O3 => by
    have qq := (blk_cells (blk3 w (.cells #[.slice ta NT tc, .slice oa NO oc, .slice ba NB bc, .int .i64 s.cur, .int .i64 s.steps, .int .i64 s.spent, .int .i64 s.read] 26) O2 O3).1).1
    exact names_any (qq 0) (qq 1) ((unhide HO).below (bl_three w _ O2 O3) (Nat.le_refl _)) ⟨t1, unhide HT2⟩ 9 x2
  have hnb : nmB NT s.objs (9, x2) = (nmO s.objs (9, x2)).isSome := by simp [nmB]
  rw [hnb] at HNM
  clear hnb
  cases hr : nmO s.objs (9, x2) with
  | none =>
    have HCH : Hid (chF s.objs sl up = none) := by have := unhide HC1; rw [hr] at this; exact this
    rw [hr] at HNM
    clear HC1 hr
    go_enter Try.func53, Try.ntmps53
    go_wp2_with fail
    refine (unhide HNM _ _).mono ?_
    rintro e w1 ⟨rfl, hb1⟩
    have h3 : Below (w.heap.size + 3) _ w1 := hb1.mono (by simp only [World.size_alloc]; omega)
    obtain ⟨b1', b2', b3'⟩ := blk3 w (.cells #[.slice ta NT tc, .slice oa NO oc, .slice ba NB bc, .int .i64 s.cur, .int .i64 s.steps, .int .i64 s.spent, .int .i64 s.read] 26) (.cells #[.int .i64 0, .slice none 0 0, .slice none 0 0, .int .i64 0, .int .i64 0, .bool false] 43) (.cells #[.int .i64 9, .int .i64 x2] 40)
    obtain ⟨q2, f2, l2'⟩ := blk_cells ((h3.block (w.heap.size + 1) (by omega)).trans b2')
    have z0 := q2 0
    have z1 := q2 1
    have z2 := q2 2
    have z3 := q2 3
    have z4 := q2 4
    have z5 := q2 5
    have y0 := f2 0
    have y1 := f2 1
    have y2 := f2 2
    have y3 := f2 3
    have y4 := f2 4
    have y5 := f2 5
    simp at z0 z1 z2 z3 z4 z5
    have hbw := bl_past (unhide HBW _ _ _) hb1
    clear HBW
    have HBW := hide hbw
    clear hb1 h3 b1' b2' b3' q2 f2 HNM hbw
    go_wp2_with fail
    refine bodyPost_ret (v := .tuple #[.agg #[.int .i64 0, .slice none 0 0, .slice none 0 0, .int .i64 0, .int .i64 0, .bool false], .bool false]) ?_ rfl ?_
    · rw [results_cell_tmp rfl]
      go_simp
    · have hP : ∀ W, Below w.heap.size w W → ChP w (chF s.objs sl up) (.returned (.tuple #[.agg #[.int .i64 0, .slice none 0 0, .slice none 0 0, .int .i64 0, .int .i64 0, .bool false], .bool false])) W := fun W hW => by rw [unhide HCH]; exact ⟨⟨0, [], [], 0, 0, false⟩, none, 0, none, 0, rfl, rfl, hW⟩
      apply hP
      repeat (first | exact unhide HBW | refine Below.setCell ?_ (by first | (simp; done) | (simp; omega)) _)
  | some o =>
    have HCH : Hid (chF s.objs sl up = some o) := by have := unhide HC1; rw [hr] at this; exact this
    rw [hr] at HNM
    have hno : ∃ i : Nat, x2 = i ∧ s.objs[i]? = some o := by
      unfold nmO at hr
      split at hr
      · rename_i hq
        simp only at hq hr
        rw [Option.bind_eq_some_iff] at hr
        obtain ⟨o', ho', hk'⟩ := hr
        split at hk'
        · cases hk'
          exact ⟨x2.toNat, by omega, ho'⟩
        · cases hk'
      · cases hr
    obtain ⟨i, rfl, ho⟩ := hno
    have hin := (List.getElem?_eq_some_iff.1 ho).1
    rw [unhide hNO] at hin
    obtain ⟨gb, go, ia, ic, ka, kc, eg, hgb, g0, g1, g2, g3, g4, g5, -, -, i1, i2, k1, k2⟩ := (unhide HO).six ho
    cases eg
    obtain ⟨kd, its, ks, fn, cp, sh⟩ := o
    simp only at g0 g1 g2 g3 g4 g5 i1 k1
    obtain ⟨IL, hIL⟩ : ∃ n, Hid (its.length = n) := ⟨_, hide rfl⟩
    obtain ⟨KL, hKL⟩ : ∃ n, Hid (ks.length = n) := ⟨_, hide rfl⟩
    rw [unhide hIL] at g1 i1
    rw [unhide hKL] at g2 k1
    unfold maxLen at i2 k2
    have n0 : (0 : Int) ≤ (i : Int) := by omega
    have n1 : (i : Int) < (NO : Int) := by omega
    clear HC1 hr ho
    go_enter Try.func53, Try.ntmps53
    go_wp2_with fail
    refine (unhide HNM _ _).mono ?_
    rintro e w1 ⟨rfl, hb1⟩
    have h3 : Below (w.heap.size + 3) _ w1 := hb1.mono (by simp only [World.size_alloc]; omega)
    obtain ⟨b1', b2', b3'⟩ := blk3 w (.cells #[.slice ta NT tc, .slice (some ⟨gb, go, none⟩) NO oc, .slice ba NB bc, .int .i64 s.cur, .int .i64 s.steps, .int .i64 s.spent, .int .i64 s.read] 26) (.cells #[.int .i64 0, .slice none 0 0, .slice none 0 0, .int .i64 0, .int .i64 0, .bool false] 43) (.cells #[.int .i64 9, .int .i64 (i : Int)] 40)
    obtain ⟨q1, _, l1'⟩ := blk_cells ((h3.block w.heap.size (by omega)).trans b1')
    obtain ⟨q2, f2, l2'⟩ := blk_cells ((h3.block (w.heap.size + 1) (by omega)).trans b2')
    obtain ⟨q3, _, l3'⟩ := blk_cells ((h3.block (w.heap.size + 1 + 1) (by omega)).trans b3')
    have z0 := q2 0
    have z1 := q2 1
    have z2 := q2 2
    have z3 := q2 3
    have z4 := q2 4
    have z5 := q2 5
    have y0 := f2 0
    have y1 := f2 1
    have y2 := f2 2
    have y3 := f2 3
    have y4 := f2 4
    have y5 := f2 5
    have m1 := q1 1
    have m2 := q3 1
    simp at z0 z1 z2 z3 z4 z5 m1 m2
    have hbw := bl_past (unhide HBW _ _ _) hb1
    clear HBW
    have u0 := (hbw.cell (p := ⟨gb, go + i * 6, none⟩) hgb).trans g0
    have u1 := (hbw.cell (p := ⟨gb, go + i * 6 + 1, none⟩) hgb).trans g1
    have u2 := (hbw.cell (p := ⟨gb, go + i * 6 + 2, none⟩) hgb).trans g2
    have u3 := (hbw.cell (p := ⟨gb, go + i * 6 + 3, none⟩) hgb).trans g3
    have u4 := (hbw.cell (p := ⟨gb, go + i * 6 + 4, none⟩) hgb).trans g4
    have u5 := (hbw.cell (p := ⟨gb, go + i * 6 + 5, none⟩) hgb).trans g5
    have HBW := hide hbw
    clear hb1 h3 b1' b2' b3' q1 q2 q3 f2 HNM hbw g0 g1 g2 g3 g4 g5
    go_wp2_with fail
    refine bodyPost_ret (v := .tuple #[.agg #[.int .i64 kd, .slice ia IL ic, .slice ka KL kc, .int .i64 fn, .int .i64 cp, .bool sh], .bool true]) ?_ rfl ?_
    · rw [results_cell_tmp rfl]
      go_simp
    · have hP : ∀ W, Below w.heap.size w W → ChP w (chF s.objs sl up) (.returned (.tuple #[.agg #[.int .i64 kd, .slice ia IL ic, .slice ka KL kc, .int .i64 fn, .int .i64 cp, .bool sh], .bool true])) W := fun W hW => by rw [unhide HCH]; exact ⟨⟨kd, its, ks, fn, cp, sh⟩, ia, ic, ka, kc, by rw [unhide hIL, unhide hKL]; rfl, rfl, hW⟩
      apply hP
      repeat (first | exact unhide HBW | refine Below.setCell ?_ (by first | (simp; done) | (simp; omega)) _)
end Go.Proofs.Ytadgiccfjppnfaa
