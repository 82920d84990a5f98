/-
  The document's Blocked.
-/
import Derived.Test.YtadgiccfjppnfaaDn
namespace Go.Proofs.Ytadgiccfjppnfaa
open Go.RowKit
set_option linter.unusedVariables false
set_option linter.unusedSimpArgs false
set_option maxRecDepth 100000 in
set_option maxHeartbeats 3200000 in
theorem dBlocked_out {w : World} {pv v : Value} {p : Pg} {s : St} (hp : PgV w pv p) (h : StV w v s) (k : Int) (hk : ¬ (0 ≤ k ∧ k < (s.fibs.length : Int))) :
    Calls Try.prog 19 #[pv, v, .int .i64 k] w fun e w' => e = .returned (.bool false) ∧ Below w.heap.size w w' := by
  obtain ⟨ta, tc, oa, oc, ba, bc, rfl, -, ro, rb, t1, t2, o1, o2, b1, b2⟩ := h.shape
  unfold maxLen at t2 o2 b2
  obtain ⟨ca, cc, pa, pc, rfl, hr, f1, f2⟩ := hp.shape
  unfold maxLen at f2
  obtain ⟨NT, hNT⟩ : ∃ n, Hid (s.texts.length = n) := ⟨_, hide rfl⟩
  obtain ⟨NO, hNO⟩ : ∃ n, Hid (s.objs.length = n) := ⟨_, hide rfl⟩
  obtain ⟨NB, hNB⟩ : ∃ n, Hid (s.fibs.length = n) := ⟨_, hide rfl⟩
  obtain ⟨NC, hNC⟩ : ∃ n, Hid (p.consts.length = n) := ⟨_, hide rfl⟩
  obtain ⟨NF, hNF⟩ : ∃ n, Hid (p.funcs.length = n) := ⟨_, hide rfl⟩
  rw [unhide hNT, unhide hNO, unhide hNB, unhide hNC, unhide hNF]
  rw [unhide hNB] at hk
  have HB0 := hide (bl_two w)
  clear h hp hr rb ro
  by_cases h0 : 0 ≤ k
  · have g0 : decide (k < 0) = false := decide_eq_false (by omega)
    have g1 : decide ((NB : Int) ≤ k) = true := decide_eq_true (by omega)
    clear hk
    go_enter Try.func19, Try.ntmps19
    go_wp2_with fail
    go_ret
    exact ⟨rfl, unhide HB0 _ _⟩
  · have g0 : decide (k < 0) = true := decide_eq_true (by omega)
    clear hk
    go_enter Try.func19, Try.ntmps19
    go_wp2_with fail
    go_ret
    exact ⟨rfl, unhide HB0 _ _⟩
set_option maxRecDepth 100000 in
set_option maxHeartbeats 3200000 in
theorem dBlocked_end {w : World} {pv v : Value} {p : Pg} {s : St} (hp : PgV w pv p) (h : StV w v s) (i : Nat) (hi : s.fibs[i]? = some []) :
    Calls Try.prog 19 #[pv, v, .int .i64 i] w fun e w' => e = .returned (.bool true) ∧ Below w.heap.size w w' := by
  obtain ⟨ta, tc, oa, oc, ba, bc, rfl, -, ro, rb, t1, t2, o1, o2, b1, b2⟩ := h.shape
  unfold maxLen at t2 o2 b2
  obtain ⟨ca, cc, pa, pc, rfl, hr, f1, f2⟩ := hp.shape
  unfold maxLen at f2
  obtain ⟨NT, hNT⟩ : ∃ n, Hid (s.texts.length = n) := ⟨_, hide rfl⟩
  obtain ⟨NO, hNO⟩ : ∃ n, Hid (s.objs.length = n) := ⟨_, hide rfl⟩
  obtain ⟨NB, hNB⟩ : ∃ n, Hid (s.fibs.length = n) := ⟨_, hide rfl⟩
  obtain ⟨NC, hNC⟩ : ∃ n, Hid (p.consts.length = n) := ⟨_, hide rfl⟩
  obtain ⟨NF, hNF⟩ : ∃ n, Hid (p.funcs.length = n) := ⟨_, hide rfl⟩
  rw [unhide hNT, unhide hNO, unhide hNB, unhide hNC, unhide hNF]
  have hil := (List.getElem?_eq_some_iff.1 hi).1
  rw [unhide hNB] at hil
  obtain ⟨b, off, fa, fc, ea, hb, k0, -, hfl, hfm⟩ := rb.one hi
  cases ea
  unfold maxLen at hfm
  have k0' : w.cell? ⟨b, off + i, none⟩ = some (.slice fa 0 fc) := k0
  have i0 : (0 : Int) ≤ (i : Int) := by omega
  have i1 : (i : Int) < (NB : Int) := by omega
  have g0 : decide ((i : Int) < 0) = false := decide_eq_false (by omega)
  have g1 : ¬ NB ≤ i := by omega
  have bl1 : b < w.heap.size + 1 := by omega
  have HB0 := hide (bl_two w)
  clear h hp hr rb ro hi k0
  go_enter Try.func19, Try.ntmps19
  go_wp2_with fail
  go_ret
  exact ⟨rfl, unhide HB0 _ _⟩
set_option maxRecDepth 100000 in
set_option maxHeartbeats 3200000 in
theorem dBlocked_yes {w : World} {pv v : Value} {p : Pg} {s : St} (hp : PgV w pv p) (h : StV w v s) (hs : StB s) (i : Nat) {fs : List Fm} {f : Fm} (hi : s.fibs[i]? = some fs) (n : Nat) (hn : fs.length = n + 1) (hf : fs[n]? = some f) :
    Calls Try.prog 19 #[pv, v, .int .i64 i] w fun e w' => e = .returned (.bool (wtB p s f)) ∧ Below w.heap.size w w' := by
  have hM : f.sl.length ≤ 1048576 := (hs.bs fs (List.mem_of_getElem? hi)).2 f (List.mem_of_getElem? hf)
  have hk : 0 ≤ (i : Int) ∧ (i : Int) < (s.fibs.length : Int) := by have := (List.getElem?_eq_some_iff.1 hi).1; omega
  have hgl : fs.getLast? = some f := by rw [List.getLast?_eq_getElem?, hn, Nat.add_sub_cancel]; exact hf
  have hnx : nxD p s i = (insF p f.fn f.pc).map (fun x => (x, f)) := by unfold nxD; rw [if_pos hk, Int.toNat_natCast, hi]; simp only [Option.bind_some]; rw [hgl]; rfl
  have HR0 := fun O1 O2 => dNext_any (hp.below (bl_two w O1 O2) (Nat.le_refl _)) (h.below (bl_two w O1 O2) (Nat.le_refl _)) hs i
  rw [hnx] at HR0
  have HR := hide HR0
  obtain ⟨ta, tc, oa, oc, ba, bc, rfl, -, ro, rb, t1, t2, o1, o2, b1, b2⟩ := h.shape
  unfold maxLen at t2 o2 b2
  obtain ⟨ca, cc, pa, pc, rfl, hr, f1, f2⟩ := hp.shape
  unfold maxLen at f2
  obtain ⟨NT, hNT⟩ : ∃ n, Hid (s.texts.length = n) := ⟨_, hide rfl⟩
  obtain ⟨NO, hNO⟩ : ∃ n, Hid (s.objs.length = n) := ⟨_, hide rfl⟩
  obtain ⟨NB, hNB⟩ : ∃ n, Hid (s.fibs.length = n) := ⟨_, hide rfl⟩
  obtain ⟨NC, hNC⟩ : ∃ n, Hid (p.consts.length = n) := ⟨_, hide rfl⟩
  obtain ⟨NF, hNF⟩ : ∃ n, Hid (p.funcs.length = n) := ⟨_, hide rfl⟩
  rw [unhide hNT, unhide hNO, unhide hNB] at HR ⊢
  rw [unhide hNC, unhide hNF] at HR ⊢
  have hil := (List.getElem?_eq_some_iff.1 hi).1
  rw [unhide hNB] at hil
  obtain ⟨b, off, fa, fc, ea, hb, k0, -, hfl, hfm⟩ := rb.one hi
  cases ea
  rw [hn] at k0 hfl
  unfold maxLen at hfm
  have i0 : (0 : Int) ≤ (i : Int) := by omega
  have i1 : (i : Int) < (NB : Int) := by omega
  have g0 : decide ((i : Int) < 0) = false := decide_eq_false (by omega)
  have g1 : ¬ NB ≤ i := by omega
  have en : (((n + 1 : Nat) : Int) == 0) = false := by simp; omega
  have bl1 : b < w.heap.size + 1 := by omega
  obtain ⟨p1, p2⟩ := blk2 w (.cells #[.slice ca NC cc, .slice pa NF pc] 48) (.cells #[.slice ta NT tc, .slice oa NO oc, .slice (some ⟨b, off, none⟩) NB bc, .int .i64 s.cur, .int .i64 s.steps, .int .i64 s.spent, .int .i64 s.read] 26)
  have HP2 := hide p2
  have HB0 := hide (bl_two w)
  have HO := hide ro
  rw [unhide hNO] at HO
  obtain ⟨fn, qc, sl⟩ := f
  simp only at HR hM ⊢
  have HWT : Hid (wtB p s ⟨fn, qc, sl⟩ = if ((insF p fn qc).getD (0, 0)).1 = 63 then fulB (chF s.objs sl 1) else if ((insF p fn qc).getD (0, 0)).1 = 64 then empB (chF s.objs sl 0) else false) := hide rfl
  clear h hp hr p1 p2 hi hn hf rb ro hgl hnx HR0 hk hs
  cases hin : insF p fn qc with
  | none =>
    rw [hin] at HR HWT
    have HWT2 : Hid (wtB p s ⟨fn, qc, sl⟩ = false) := unhide HWT
    clear HWT hin HO
    go_enter Try.func19, Try.ntmps19
    go_wp2_with fail
    refine (unhide HR _ _).mono ?_
    rintro e w1 ⟨rfl, hb1⟩
    have q2 := bkeep (unhide HP2) hb1
    have HQ2 := hide q2
    obtain ⟨za, -, hl1⟩ := blk_cells q2
    have s1 := za 1
    simp at s1
    have HB1 := hide (bl_past (unhide HB0 _ _) hb1)
    have hw1 : w.heap.size + 1 < w1.heap.size := hl1
    have hw2 : w.heap.size + 1 < w1.heap.size + 1 := by omega
    have hw3 : w.heap.size + 1 < w1.heap.size + 1 + 1 := by omega
    have hw4 : w.heap.size < w1.heap.size := by omega
    have hw5 : w.heap.size < w1.heap.size + 1 := by omega
    have hw6 : w.heap.size < w1.heap.size + 1 + 1 := by omega
    clear hb1 q2 za HR

    go_wp2_with fail
    go_ret
    exact ⟨by rw [unhide HWT2]; rfl, ((unhide HB1).alloc (unhide HB1).size _).alloc (by simp only [World.size_alloc]; have := (unhide HB1).size; omega) _⟩
  | some x =>
    rw [hin] at HR HWT
    obtain ⟨x1, x2⟩ := x
    simp only [Option.getD_some] at HWT
    obtain ⟨SL, hSL⟩ : ∃ n, Hid (sl.length = n) := ⟨_, hide rfl⟩
    have hSb : SL ≤ 1048576 := by rw [← unhide hSL]; exact hM
    clear hin
    by_cases e63 : x1 = 63
    · subst e63
      rw [if_pos rfl] at HWT
      have HWT2 : Hid (wtB p s ⟨fn, qc, sl⟩ = fulB (chF s.objs sl 1)) := unhide HWT
      clear HWT
      by_cases hlen : 1 < SL
      case neg =>
        have HV : Hid (wtB p s ⟨fn, qc, sl⟩ = false) := by have := unhide HWT2; unfold chF at this; rw [if_neg (by rw [unhide hSL]; exact hlen)] at this; exact this
        have gl : SL < 2 := by omega
        have gl2 : decide ((SL : Int) < 2) = true := decide_eq_true (by omega)
        clear HO HWT2
        go_enter Try.func19, Try.ntmps19
        go_wp2_with fail
        refine (unhide HR _ _).mono ?_
        rintro e w1 ⟨sa, sc, rfl, hx1, hsl, hsm, hb1⟩
        simp only at hx1 hsl
        have HX1 := hide hx1
        unfold maxLen at hsm
        rw [unhide hSL] at hsl
        rw [unhide hSL]
        have q2 := bkeep (unhide HP2) hb1
        have HQ2 := hide q2
        obtain ⟨za, -, hl1⟩ := blk_cells q2
        have s1 := za 1
        simp at s1
        have HB1 := hide (bl_past (unhide HB0 _ _) hb1)
        have hw1 : w.heap.size + 1 < w1.heap.size := hl1
        have hw2 : w.heap.size + 1 < w1.heap.size + 1 := by omega
        have hw3 : w.heap.size + 1 < w1.heap.size + 1 + 1 := by omega
        have hw4 : w.heap.size < w1.heap.size := by omega
        have hw5 : w.heap.size < w1.heap.size + 1 := by omega
        have hw6 : w.heap.size < w1.heap.size + 1 + 1 := by omega
        clear hb1 q2 za HR
        clear hx1

        go_wp2_with fail
        go_ret
        exact ⟨by rw [unhide HV]; rfl, ((unhide HB1).alloc (unhide HB1).size _).alloc (by simp only [World.size_alloc]; have := (unhide HB1).size; omega) _⟩
      obtain ⟨x, hx⟩ : ∃ x, sl[SL - 1 - 1]? = some x := ⟨_, List.getElem?_eq_getElem (by have := unhide hSL; omega)⟩
      have HC1 : Hid (chF s.objs sl 1 = if x.1 = 9 then nmO s.objs x else none) := by unfold chF; rw [if_pos (by rw [unhide hSL]; exact hlen), unhide hSL, hx]; exact hide rfl
      obtain ⟨v1, v2⟩ := x
      simp only at HC1
      obtain ⟨D, hD⟩ : ∃ n, Hid (SL - 1 - 1 = n) := ⟨_, hide rfl⟩
      rw [unhide hD] at hx
      have hDe := unhide hD
      have e2 : IntKind.i64.wrap ((SL : Int) - 2) = (D : Int) := by rw [show (SL : Int) - 2 = (D : Int) by omega]; go_arith
      have D0 : (0 : Int) ≤ (D : Int) := by omega
      have D1 : (D : Int) < (SL : Int) := by omega
      have gl : ¬ SL < 2 := by omega
      have gl2 : decide ((SL : Int) < 2) = false := decide_eq_false (by omega)
      have HXx := hide hx
      clear hx hDe hD
      by_cases h9 : v1 = 9
      case neg =>
        have HV : Hid (wtB p s ⟨fn, qc, sl⟩ = false) := by have := unhide HWT2; rw [unhide HC1, if_neg h9] at this; exact this
        have d9 : (v1 != 9) = true := by simpa using h9
        have d9' : (v1 == 9) = false := by simpa using h9
        clear HO HWT2 HC1 h9
        go_enter Try.func19, Try.ntmps19
        go_wp2_with fail
        refine (unhide HR _ _).mono ?_
        rintro e w1 ⟨sa, sc, rfl, hx1, hsl, hsm, hb1⟩
        simp only at hx1 hsl
        have HX1 := hide hx1
        unfold maxLen at hsm
        rw [unhide hSL] at hsl
        rw [unhide hSL]
        have q2 := bkeep (unhide HP2) hb1
        have HQ2 := hide q2
        obtain ⟨za, -, hl1⟩ := blk_cells q2
        have s1 := za 1
        simp at s1
        have HB1 := hide (bl_past (unhide HB0 _ _) hb1)
        have hw1 : w.heap.size + 1 < w1.heap.size := hl1
        have hw2 : w.heap.size + 1 < w1.heap.size + 1 := by omega
        have hw3 : w.heap.size + 1 < w1.heap.size + 1 + 1 := by omega
        have hw4 : w.heap.size < w1.heap.size := by omega
        have hw5 : w.heap.size < w1.heap.size + 1 := by omega
        have hw6 : w.heap.size < w1.heap.size + 1 + 1 := by omega
        clear hb1 q2 za HR
        clear hx1

        have hsr := unhide HX1
        obtain ⟨sb, so, sc2, es, -, -, hsb, hcs⟩ := hsr.elem zI (unhide HXx)
        rw [unhide hSL] at es
        injection es with es1 es2 es3
        subst es1
        subst es3
        clear es2
        have c0 : w1.cell? ⟨sb, so + D * 2, none⟩ = some (.int .i64 v1) := hcs 0 _ rfl
        have c1 : w1.cell? ⟨sb, so + D * 2 + 1, none⟩ = some (.int .i64 v2) := hcs 1 _ rfl
        have sbl1 : sb < w1.heap.size + 1 := by omega
        have sbl2 : sb < w1.heap.size + 1 + 1 := by omega
        clear hcs hsr HX1 HXx
        go_wp2_with fail
        go_ret
        exact ⟨by rw [unhide HV]; rfl, (((unhide HB1).alloc (unhide HB1).size _).alloc (by simp only [World.size_alloc]; have := (unhide HB1).size; omega) _).alloc (by simp only [World.size_alloc]; have := (unhide HB1).size; omega) _⟩
      subst h9
      rw [if_pos rfl] at HC1
      have HNM := hide (fun (w' : World) (hb : Below w.heap.size w w') => namesO_any ((unhide HO).below hb (Nat.le_refl _)) 9 v2)
      cases hr : nmO s.objs (9, v2) with
      | none =>
        have HV : Hid (wtB p s ⟨fn, qc, sl⟩ = false) := by have := unhide HWT2; rw [unhide HC1, hr] at this; exact this
        rw [hr] at HNM
        clear HO HWT2 HC1 hr
        go_enter Try.func19, Try.ntmps19
        go_wp2_with fail
        refine (unhide HR _ _).mono ?_
        rintro e w1 ⟨sa, sc, rfl, hx1, hsl, hsm, hb1⟩
        simp only at hx1 hsl
        have HX1 := hide hx1
        unfold maxLen at hsm
        rw [unhide hSL] at hsl
        rw [unhide hSL]
        have q2 := bkeep (unhide HP2) hb1
        have HQ2 := hide q2
        obtain ⟨za, -, hl1⟩ := blk_cells q2
        have s1 := za 1
        simp at s1
        have HB1 := hide (bl_past (unhide HB0 _ _) hb1)
        have hw1 : w.heap.size + 1 < w1.heap.size := hl1
        have hw2 : w.heap.size + 1 < w1.heap.size + 1 := by omega
        have hw3 : w.heap.size + 1 < w1.heap.size + 1 + 1 := by omega
        have hw4 : w.heap.size < w1.heap.size := by omega
        have hw5 : w.heap.size < w1.heap.size + 1 := by omega
        have hw6 : w.heap.size < w1.heap.size + 1 + 1 := by omega
        clear hb1 q2 za HR
        clear hx1

        have hsr := unhide HX1
        obtain ⟨sb, so, sc2, es, -, -, hsb, hcs⟩ := hsr.elem zI (unhide HXx)
        rw [unhide hSL] at es
        injection es with es1 es2 es3
        subst es1
        subst es3
        clear es2
        have c0 : w1.cell? ⟨sb, so + D * 2, none⟩ = some (.int .i64 9) := hcs 0 _ rfl
        have c1 : w1.cell? ⟨sb, so + D * 2 + 1, none⟩ = some (.int .i64 v2) := hcs 1 _ rfl
        have sbl1 : sb < w1.heap.size + 1 := by omega
        have sbl2 : sb < w1.heap.size + 1 + 1 := by omega
        clear hcs hsr HX1 HXx
        have K4 := hide (fun O1 O2 O3 => unhide HNM (((w1.alloc O1).alloc O2).alloc O3) (bl_past (unhide HB1) (bl_three w1 O1 O2 O3)))
        clear HNM
        go_wp2_with fail
        refine (unhide K4 _ _ _).mono ?_
        rintro e w2 ⟨rfl, hb2⟩
        have HB2 := hide (bl_past (bl_past (unhide HB1) (bl_three w1 _ _ _)) hb2)
        clear hb2 K4
        go_wp2_with fail
        go_ret
        exact ⟨by rw [unhide HV]; rfl, unhide HB2⟩
      | some o =>
        have HV0 : Hid (wtB p s ⟨fn, qc, sl⟩ = fulB (some o)) := by have := unhide HWT2; rw [unhide HC1, hr] at this; exact this
        rw [hr] at HNM
        have hno : ∃ i : Nat, v2 = i ∧ s.objs[i]? = some o := by
          unfold nmO at hr
          split at hr
          · rename_i hq
            simp only at hq hr
            rw [Option.bind_eq_some_iff] at hr
            obtain ⟨o', ho', hk'⟩ := hr
            split at hk'
            · cases hk'
              exact ⟨v2.toNat, by omega, ho'⟩
            · cases hk'
          · cases hr
        obtain ⟨oi, rfl, ho⟩ := hno
        have hin2 := (List.getElem?_eq_some_iff.1 ho).1
        rw [unhide hNO] at hin2
        obtain ⟨gb, go, ia, ic, ka, kc, eg, hgb, y0, y1, y2, y3, y4, y5, -, -, j1, j2, j3, j4⟩ := (unhide HO).six ho
        cases eg
        obtain ⟨kd, its, ks, gn, cp, sh⟩ := o
        simp only at y0 y1 y2 y3 y4 y5 j1 j3
        obtain ⟨IL, hIL⟩ : ∃ n, Hid (its.length = n) := ⟨_, hide rfl⟩
        obtain ⟨KL, hKL⟩ : ∃ n, Hid (ks.length = n) := ⟨_, hide rfl⟩
        rw [unhide hIL] at y1 j1
        rw [unhide hKL] at y2 j3
        unfold maxLen at j2 j4
        have n0 : (0 : Int) ≤ (oi : Int) := by omega
        have n1 : (oi : Int) < (NO : Int) := by omega
        have HV : Hid (wtB p s ⟨fn, qc, sl⟩ = (!sh && decide (cp ≤ (IL : Int)))) := by have := unhide HV0; unfold fulB at this; simp only [Option.isSome_some, Option.getD_some, Bool.true_and, unhide hIL] at this; exact this
        clear HWT2 HC1 hr ho HV0 HO
        go_enter Try.func19, Try.ntmps19
        go_wp2_with fail
        refine (unhide HR _ _).mono ?_
        rintro e w1 ⟨sa, sc, rfl, hx1, hsl, hsm, hb1⟩
        simp only at hx1 hsl
        have HX1 := hide hx1
        unfold maxLen at hsm
        rw [unhide hSL] at hsl
        rw [unhide hSL]
        have q2 := bkeep (unhide HP2) hb1
        have HQ2 := hide q2
        obtain ⟨za, -, hl1⟩ := blk_cells q2
        have s1 := za 1
        simp at s1
        have HB1 := hide (bl_past (unhide HB0 _ _) hb1)
        have hw1 : w.heap.size + 1 < w1.heap.size := hl1
        have hw2 : w.heap.size + 1 < w1.heap.size + 1 := by omega
        have hw3 : w.heap.size + 1 < w1.heap.size + 1 + 1 := by omega
        have hw4 : w.heap.size < w1.heap.size := by omega
        have hw5 : w.heap.size < w1.heap.size + 1 := by omega
        have hw6 : w.heap.size < w1.heap.size + 1 + 1 := by omega
        clear hb1 q2 za HR
        clear hx1

        have hsr := unhide HX1
        obtain ⟨sb, so, sc2, es, -, -, hsb, hcs⟩ := hsr.elem zI (unhide HXx)
        rw [unhide hSL] at es
        injection es with es1 es2 es3
        subst es1
        subst es3
        clear es2
        have c0 : w1.cell? ⟨sb, so + D * 2, none⟩ = some (.int .i64 9) := hcs 0 _ rfl
        have c1 : w1.cell? ⟨sb, so + D * 2 + 1, none⟩ = some (.int .i64 (oi : Int)) := hcs 1 _ rfl
        have sbl1 : sb < w1.heap.size + 1 := by omega
        have sbl2 : sb < w1.heap.size + 1 + 1 := by omega
        clear hcs hsr HX1 HXx
        have K4 := hide (fun O1 O2 O3 => unhide HNM (((w1.alloc O1).alloc O2).alloc O3) (bl_past (unhide HB1) (bl_three w1 O1 O2 O3)))
        clear HNM
        go_wp2_with fail
        refine (unhide K4 _ _ _).mono ?_
        rintro e w2 ⟨rfl, hb2⟩
        obtain ⟨zd, -, hld⟩ := blk_cells (bkeep (blk3 w1 _ _ (.cells #[.int .i64 9, .int .i64 (oi : Int)] 40)).2.2 hb2)
        have t1' := zd 1
        simp at t1'
        have hb3 := bl_past (bl_three w1 _ _ _) hb2
        obtain ⟨ze, -, hle⟩ := blk_cells (bkeep (unhide HQ2) hb3)
        have t2' := ze 1
        simp at t2'
        have hbw := bl_past (unhide HB1) hb3
        have u0 := (hbw.cell (p := ⟨gb, go + oi * 6, none⟩) hgb).trans y0
        have u1 := (hbw.cell (p := ⟨gb, go + oi * 6 + 1, none⟩) hgb).trans y1
        have u2 := (hbw.cell (p := ⟨gb, go + oi * 6 + 2, none⟩) hgb).trans y2
        have u3 := (hbw.cell (p := ⟨gb, go + oi * 6 + 3, none⟩) hgb).trans y3
        have u4 := (hbw.cell (p := ⟨gb, go + oi * 6 + 4, none⟩) hgb).trans y4
        have u5 := (hbw.cell (p := ⟨gb, go + oi * 6 + 5, none⟩) hgb).trans y5
        have HB2 := hide hbw
        clear hb2 K4 zd ze hb3 hbw y0 y1 y2 y3 y4 y5 s1 c0 c1
        cases sh
        · by_cases hcp : cp ≤ (IL : Int)
          · have g : decide (cp ≤ (IL : Int)) = true := decide_eq_true hcp
      
            go_wp2_with fail
            go_ret
            exact ⟨by rw [unhide HV, g]; first | rfl | simp [g] | simp_all, (unhide HB2).alloc (unhide HB2).size _⟩
          · have g : decide (cp ≤ (IL : Int)) = false := decide_eq_false hcp
      
            go_wp2_with fail
            go_ret
            exact ⟨by rw [unhide HV, g]; first | rfl | simp [g] | simp_all, (unhide HB2).alloc (unhide HB2).size _⟩
        · go_wp2_with fail
          go_ret
          exact ⟨by rw [unhide HV]; rfl, unhide HB2⟩

    · rw [if_neg e63] at HWT
      by_cases e64 : x1 = 64
      · subst e64
        rw [if_pos rfl] at HWT
        have HWT2 : Hid (wtB p s ⟨fn, qc, sl⟩ = empB (chF s.objs sl 0)) := unhide HWT
        clear HWT
        by_cases hlen : 0 < SL
        case neg =>
          have HV : Hid (wtB p s ⟨fn, qc, sl⟩ = false) := by have := unhide HWT2; unfold chF at this; rw [if_neg (by rw [unhide hSL]; exact hlen)] at this; exact this
          have gl : SL < 1 := by omega
          have gl2 : decide ((SL : Int) < 1) = true := decide_eq_true (by omega)
          clear HO HWT2
          go_enter Try.func19, Try.ntmps19
          go_wp2_with fail
          refine (unhide HR _ _).mono ?_
          rintro e w1 ⟨sa, sc, rfl, hx1, hsl, hsm, hb1⟩
          simp only at hx1 hsl
          have HX1 := hide hx1
          unfold maxLen at hsm
          rw [unhide hSL] at hsl
          rw [unhide hSL]
          have q2 := bkeep (unhide HP2) hb1
          have HQ2 := hide q2
          obtain ⟨za, -, hl1⟩ := blk_cells q2
          have s1 := za 1
          simp at s1
          have HB1 := hide (bl_past (unhide HB0 _ _) hb1)
          have hw1 : w.heap.size + 1 < w1.heap.size := hl1
          have hw2 : w.heap.size + 1 < w1.heap.size + 1 := by omega
          have hw3 : w.heap.size + 1 < w1.heap.size + 1 + 1 := by omega
          have hw4 : w.heap.size < w1.heap.size := by omega
          have hw5 : w.heap.size < w1.heap.size + 1 := by omega
          have hw6 : w.heap.size < w1.heap.size + 1 + 1 := by omega
          clear hb1 q2 za HR
          clear hx1

          go_wp2_with fail
          go_ret
          exact ⟨by rw [unhide HV]; rfl, ((unhide HB1).alloc (unhide HB1).size _).alloc (by simp only [World.size_alloc]; have := (unhide HB1).size; omega) _⟩
        obtain ⟨x, hx⟩ : ∃ x, sl[SL - 1 - 0]? = some x := ⟨_, List.getElem?_eq_getElem (by have := unhide hSL; omega)⟩
        have HC1 : Hid (chF s.objs sl 0 = if x.1 = 9 then nmO s.objs x else none) := by unfold chF; rw [if_pos (by rw [unhide hSL]; exact hlen), unhide hSL, hx]; exact hide rfl
        obtain ⟨v1, v2⟩ := x
        simp only at HC1
        obtain ⟨D, hD⟩ : ∃ n, Hid (SL - 1 - 0 = n) := ⟨_, hide rfl⟩
        rw [unhide hD] at hx
        have hDe := unhide hD
        have e2 : IntKind.i64.wrap ((SL : Int) - 1) = (D : Int) := by rw [show (SL : Int) - 1 = (D : Int) by omega]; go_arith
        have D0 : (0 : Int) ≤ (D : Int) := by omega
        have D1 : (D : Int) < (SL : Int) := by omega
        have gl : ¬ SL < 1 := by omega
        have gl2 : decide ((SL : Int) < 1) = false := decide_eq_false (by omega)
        have HXx := hide hx
        clear hx hDe hD
        by_cases h9 : v1 = 9
        case neg =>
          have HV : Hid (wtB p s ⟨fn, qc, sl⟩ = false) := by have := unhide HWT2; rw [unhide HC1, if_neg h9] at this; exact this
          have d9 : (v1 != 9) = true := by simpa using h9
          have d9' : (v1 == 9) = false := by simpa using h9
          clear HO HWT2 HC1 h9
          go_enter Try.func19, Try.ntmps19
          go_wp2_with fail
          refine (unhide HR _ _).mono ?_
          rintro e w1 ⟨sa, sc, rfl, hx1, hsl, hsm, hb1⟩
          simp only at hx1 hsl
          have HX1 := hide hx1
          unfold maxLen at hsm
          rw [unhide hSL] at hsl
          rw [unhide hSL]
          have q2 := bkeep (unhide HP2) hb1
          have HQ2 := hide q2
          obtain ⟨za, -, hl1⟩ := blk_cells q2
          have s1 := za 1
          simp at s1
          have HB1 := hide (bl_past (unhide HB0 _ _) hb1)
          have hw1 : w.heap.size + 1 < w1.heap.size := hl1
          have hw2 : w.heap.size + 1 < w1.heap.size + 1 := by omega
          have hw3 : w.heap.size + 1 < w1.heap.size + 1 + 1 := by omega
          have hw4 : w.heap.size < w1.heap.size := by omega
          have hw5 : w.heap.size < w1.heap.size + 1 := by omega
          have hw6 : w.heap.size < w1.heap.size + 1 + 1 := by omega
          clear hb1 q2 za HR
          clear hx1

          have hsr := unhide HX1
          obtain ⟨sb, so, sc2, es, -, -, hsb, hcs⟩ := hsr.elem zI (unhide HXx)
          rw [unhide hSL] at es
          injection es with es1 es2 es3
          subst es1
          subst es3
          clear es2
          have c0 : w1.cell? ⟨sb, so + D * 2, none⟩ = some (.int .i64 v1) := hcs 0 _ rfl
          have c1 : w1.cell? ⟨sb, so + D * 2 + 1, none⟩ = some (.int .i64 v2) := hcs 1 _ rfl
          have sbl1 : sb < w1.heap.size + 1 := by omega
          have sbl2 : sb < w1.heap.size + 1 + 1 := by omega
          clear hcs hsr HX1 HXx
          go_wp2_with fail
          go_ret
          exact ⟨by rw [unhide HV]; rfl, (((unhide HB1).alloc (unhide HB1).size _).alloc (by simp only [World.size_alloc]; have := (unhide HB1).size; omega) _).alloc (by simp only [World.size_alloc]; have := (unhide HB1).size; omega) _⟩
        subst h9
        rw [if_pos rfl] at HC1
        have HNM := hide (fun (w' : World) (hb : Below w.heap.size w w') => namesO_any ((unhide HO).below hb (Nat.le_refl _)) 9 v2)
        cases hr : nmO s.objs (9, v2) with
        | none =>
          have HV : Hid (wtB p s ⟨fn, qc, sl⟩ = false) := by have := unhide HWT2; rw [unhide HC1, hr] at this; exact this
          rw [hr] at HNM
          clear HO HWT2 HC1 hr
          go_enter Try.func19, Try.ntmps19
          go_wp2_with fail
          refine (unhide HR _ _).mono ?_
          rintro e w1 ⟨sa, sc, rfl, hx1, hsl, hsm, hb1⟩
          simp only at hx1 hsl
          have HX1 := hide hx1
          unfold maxLen at hsm
          rw [unhide hSL] at hsl
          rw [unhide hSL]
          have q2 := bkeep (unhide HP2) hb1
          have HQ2 := hide q2
          obtain ⟨za, -, hl1⟩ := blk_cells q2
          have s1 := za 1
          simp at s1
          have HB1 := hide (bl_past (unhide HB0 _ _) hb1)
          have hw1 : w.heap.size + 1 < w1.heap.size := hl1
          have hw2 : w.heap.size + 1 < w1.heap.size + 1 := by omega
          have hw3 : w.heap.size + 1 < w1.heap.size + 1 + 1 := by omega
          have hw4 : w.heap.size < w1.heap.size := by omega
          have hw5 : w.heap.size < w1.heap.size + 1 := by omega
          have hw6 : w.heap.size < w1.heap.size + 1 + 1 := by omega
          clear hb1 q2 za HR
          clear hx1

          have hsr := unhide HX1
          obtain ⟨sb, so, sc2, es, -, -, hsb, hcs⟩ := hsr.elem zI (unhide HXx)
          rw [unhide hSL] at es
          injection es with es1 es2 es3
          subst es1
          subst es3
          clear es2
          have c0 : w1.cell? ⟨sb, so + D * 2, none⟩ = some (.int .i64 9) := hcs 0 _ rfl
          have c1 : w1.cell? ⟨sb, so + D * 2 + 1, none⟩ = some (.int .i64 v2) := hcs 1 _ rfl
          have sbl1 : sb < w1.heap.size + 1 := by omega
          have sbl2 : sb < w1.heap.size + 1 + 1 := by omega
          clear hcs hsr HX1 HXx
          have K4 := hide (fun O1 O2 O3 => unhide HNM (((w1.alloc O1).alloc O2).alloc O3) (bl_past (unhide HB1) (bl_three w1 O1 O2 O3)))
          clear HNM
          go_wp2_with fail
          refine (unhide K4 _ _ _).mono ?_
          rintro e w2 ⟨rfl, hb2⟩
          have HB2 := hide (bl_past (bl_past (unhide HB1) (bl_three w1 _ _ _)) hb2)
          clear hb2 K4
          go_wp2_with fail
          go_ret
          exact ⟨by rw [unhide HV]; rfl, unhide HB2⟩
        | some o =>
          have HV0 : Hid (wtB p s ⟨fn, qc, sl⟩ = empB (some o)) := by have := unhide HWT2; rw [unhide HC1, hr] at this; exact this
          rw [hr] at HNM
          have hno : ∃ i : Nat, v2 = i ∧ s.objs[i]? = some o := by
            unfold nmO at hr
            split at hr
            · rename_i hq
              simp only at hq hr
              rw [Option.bind_eq_some_iff] at hr
              obtain ⟨o', ho', hk'⟩ := hr
              split at hk'
              · cases hk'
                exact ⟨v2.toNat, by omega, ho'⟩
              · cases hk'
            · cases hr
          obtain ⟨oi, rfl, ho⟩ := hno
          have hin2 := (List.getElem?_eq_some_iff.1 ho).1
          rw [unhide hNO] at hin2
          obtain ⟨gb, go, ia, ic, ka, kc, eg, hgb, y0, y1, y2, y3, y4, y5, -, -, j1, j2, j3, j4⟩ := (unhide HO).six ho
          cases eg
          obtain ⟨kd, its, ks, gn, cp, sh⟩ := o
          simp only at y0 y1 y2 y3 y4 y5 j1 j3
          obtain ⟨IL, hIL⟩ : ∃ n, Hid (its.length = n) := ⟨_, hide rfl⟩
          obtain ⟨KL, hKL⟩ : ∃ n, Hid (ks.length = n) := ⟨_, hide rfl⟩
          rw [unhide hIL] at y1 j1
          rw [unhide hKL] at y2 j3
          unfold maxLen at j2 j4
          have n0 : (0 : Int) ≤ (oi : Int) := by omega
          have n1 : (oi : Int) < (NO : Int) := by omega
          have HV : Hid (wtB p s ⟨fn, qc, sl⟩ = (!sh && decide (IL = 0))) := by have := unhide HV0; unfold empB at this; simp only [Option.isSome_some, Option.getD_some, Bool.true_and, unhide hIL] at this; exact this
          clear HWT2 HC1 hr ho HV0 HO
          go_enter Try.func19, Try.ntmps19
          go_wp2_with fail
          refine (unhide HR _ _).mono ?_
          rintro e w1 ⟨sa, sc, rfl, hx1, hsl, hsm, hb1⟩
          simp only at hx1 hsl
          have HX1 := hide hx1
          unfold maxLen at hsm
          rw [unhide hSL] at hsl
          rw [unhide hSL]
          have q2 := bkeep (unhide HP2) hb1
          have HQ2 := hide q2
          obtain ⟨za, -, hl1⟩ := blk_cells q2
          have s1 := za 1
          simp at s1
          have HB1 := hide (bl_past (unhide HB0 _ _) hb1)
          have hw1 : w.heap.size + 1 < w1.heap.size := hl1
          have hw2 : w.heap.size + 1 < w1.heap.size + 1 := by omega
          have hw3 : w.heap.size + 1 < w1.heap.size + 1 + 1 := by omega
          have hw4 : w.heap.size < w1.heap.size := by omega
          have hw5 : w.heap.size < w1.heap.size + 1 := by omega
          have hw6 : w.heap.size < w1.heap.size + 1 + 1 := by omega
          clear hb1 q2 za HR
          clear hx1

          have hsr := unhide HX1
          obtain ⟨sb, so, sc2, es, -, -, hsb, hcs⟩ := hsr.elem zI (unhide HXx)
          rw [unhide hSL] at es
          injection es with es1 es2 es3
          subst es1
          subst es3
          clear es2
          have c0 : w1.cell? ⟨sb, so + D * 2, none⟩ = some (.int .i64 9) := hcs 0 _ rfl
          have c1 : w1.cell? ⟨sb, so + D * 2 + 1, none⟩ = some (.int .i64 (oi : Int)) := hcs 1 _ rfl
          have sbl1 : sb < w1.heap.size + 1 := by omega
          have sbl2 : sb < w1.heap.size + 1 + 1 := by omega
          clear hcs hsr HX1 HXx
          have K4 := hide (fun O1 O2 O3 => unhide HNM (((w1.alloc O1).alloc O2).alloc O3) (bl_past (unhide HB1) (bl_three w1 O1 O2 O3)))
          clear HNM
          go_wp2_with fail
          refine (unhide K4 _ _ _).mono ?_
          rintro e w2 ⟨rfl, hb2⟩
          obtain ⟨zd, -, hld⟩ := blk_cells (bkeep (blk3 w1 _ _ (.cells #[.int .i64 9, .int .i64 (oi : Int)] 40)).2.2 hb2)
          have t1' := zd 1
          simp at t1'
          have hb3 := bl_past (bl_three w1 _ _ _) hb2
          obtain ⟨ze, -, hle⟩ := blk_cells (bkeep (unhide HQ2) hb3)
          have t2' := ze 1
          simp at t2'
          have hbw := bl_past (unhide HB1) hb3
          have u0 := (hbw.cell (p := ⟨gb, go + oi * 6, none⟩) hgb).trans y0
          have u1 := (hbw.cell (p := ⟨gb, go + oi * 6 + 1, none⟩) hgb).trans y1
          have u2 := (hbw.cell (p := ⟨gb, go + oi * 6 + 2, none⟩) hgb).trans y2
          have u3 := (hbw.cell (p := ⟨gb, go + oi * 6 + 3, none⟩) hgb).trans y3
          have u4 := (hbw.cell (p := ⟨gb, go + oi * 6 + 4, none⟩) hgb).trans y4
          have u5 := (hbw.cell (p := ⟨gb, go + oi * 6 + 5, none⟩) hgb).trans y5
          have HB2 := hide hbw
          clear hb2 K4 zd ze hb3 hbw y0 y1 y2 y3 y4 y5 s1 c0 c1
          cases sh
          · by_cases hcp : IL = 0
            · have g : decide (IL = 0) = true := decide_eq_true hcp
              have g2 : ((IL : Int) == 0) = true := by simp; omega
              go_wp2_with fail
              go_ret
              exact ⟨by rw [unhide HV, g]; first | rfl | simp [g] | simp_all, (unhide HB2).alloc (unhide HB2).size _⟩
            · have g : decide (IL = 0) = false := decide_eq_false hcp
              have g2 : ((IL : Int) == 0) = false := by simp; omega
              go_wp2_with fail
              go_ret
              exact ⟨by rw [unhide HV, g]; first | rfl | simp [g] | simp_all, (unhide HB2).alloc (unhide HB2).size _⟩
          · go_wp2_with fail
            go_ret
            exact ⟨by rw [unhide HV]; rfl, unhide HB2⟩

      · rw [if_neg e64] at HWT
        have d63 : (x1 == 63) = false := by simpa using e63
        have d63' : (x1 != 63) = true := by simpa using e63
        have d64 : (x1 == 64) = false := by simpa using e64
        have d64' : (x1 != 64) = true := by simpa using e64
        clear e63 e64 HO
        go_enter Try.func19, Try.ntmps19
        go_wp2_with fail
        refine (unhide HR _ _).mono ?_
        rintro e w1 ⟨sa, sc, rfl, hx1, hsl, hsm, hb1⟩
        simp only at hx1 hsl
        have HX1 := hide hx1
        unfold maxLen at hsm
        rw [unhide hSL] at hsl
        rw [unhide hSL]
        have q2 := bkeep (unhide HP2) hb1
        have HQ2 := hide q2
        obtain ⟨za, -, hl1⟩ := blk_cells q2
        have s1 := za 1
        simp at s1
        have HB1 := hide (bl_past (unhide HB0 _ _) hb1)
        have hw1 : w.heap.size + 1 < w1.heap.size := hl1
        have hw2 : w.heap.size + 1 < w1.heap.size + 1 := by omega
        have hw3 : w.heap.size + 1 < w1.heap.size + 1 + 1 := by omega
        have hw4 : w.heap.size < w1.heap.size := by omega
        have hw5 : w.heap.size < w1.heap.size + 1 := by omega
        have hw6 : w.heap.size < w1.heap.size + 1 + 1 := by omega
        clear hb1 q2 za HR
        clear hx1

        go_wp2_with fail
        go_ret
        exact ⟨by rw [unhide HWT]; rfl, ((unhide HB1).alloc (unhide HB1).size _).alloc (by simp only [World.size_alloc]; have := (unhide HB1).size; omega) _⟩
theorem dBlocked_any {w : World} {pv v : Value} {p : Pg} {s : St} (hp : PgV w pv p) (h : StV w v s) (hs : StB s) (k : Int) :
    Calls Try.prog 19 #[pv, v, .int .i64 k] w fun e w' => e = .returned (.bool (blkB p s k)) ∧ Below w.heap.size w w' := by
  by_cases hk : 0 ≤ k ∧ k < (s.fibs.length : Int)
  · obtain ⟨i, rfl⟩ : ∃ i : Nat, k = i := ⟨k.toNat, by omega⟩
    obtain ⟨fs, hi⟩ : ∃ fs, s.fibs[i]? = some fs := ⟨_, List.getElem?_eq_getElem (by omega)⟩
    rcases List.eq_nil_or_concat fs with rfl | ⟨l, f, rfl⟩
    · have e : blkB p s i = true := by unfold blkB; rw [if_pos hk, Int.toNat_natCast, hi]; rfl
      rw [e]
      exact dBlocked_end hp h i hi
    · have e : blkB p s i = wtB p s f := by unfold blkB; rw [if_pos hk, Int.toNat_natCast, hi]; simp
      rw [e]
      exact dBlocked_yes hp h hs i (f := f) hi l.length (by simp) (by simp)
  · have e : blkB p s k = false := by unfold blkB; rw [if_neg hk]
    rw [e]
    exact dBlocked_out hp h k hk
end Go.Proofs.Ytadgiccfjppnfaa
