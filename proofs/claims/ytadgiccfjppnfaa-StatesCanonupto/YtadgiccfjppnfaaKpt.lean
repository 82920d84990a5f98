/-
  kept: a state as it was lent.
-/
import Derived.Test.YtadgiccfjppnfaaLni
namespace Go.Proofs.Ytadgiccfjppnfaa
open Go.RowKit
set_option linter.unusedVariables false
set_option linter.unusedSimpArgs false
theorem RmV.shape {w : World} {v : Value} {ls : List (List (Int × Int))} (h : RmV w v ls) : ∃ a cap, v = .slice a ls.length cap ∧ ls.length ≤ cap ∧ cap ≤ maxLen := by
  obtain ⟨R, h1, h2, _⟩ := h
  rw [h1] at h2
  exact h2.shape
theorem RmV.one {w : World} {a : Option Addr} {n cap : Nat} {ls : List (List (Int × Int))} (h : RmV w (.slice a n cap) ls) {i : Nat} {l : List (Int × Int)} (hl : ls[i]? = some l) :
    ∃ b off ra rc, a = some ⟨b, off, none⟩ ∧ b < w.heap.size ∧ w.cell? ⟨b, off + i, none⟩ = some (.slice ra (l.length + 64) rc) ∧ Rx w 2 (.slice ra (l.length + 64) rc) (l ++ mkV 64).length (flt enI (l ++ mkV 64)) ∧ l.length + 64 ≤ rc ∧ rc ≤ maxLen := by
  obtain ⟨R, h1, h2, h3⟩ := h
  have hi := (List.getElem?_eq_some_iff.1 hl).1
  have hx : R[i]? = some (R[i]'(by omega)) := List.getElem?_eq_getElem (by omega)
  obtain ⟨b, off, cap', e, _, _, hb, hc⟩ := h2.elem zV hx
  injection e with e1 _ _
  subst e1
  have h4 := h3 i l _ hl hx
  have h5 := hc 0 _ rfl
  obtain ⟨ra, rc, e2, f1, f2⟩ := h4.shape
  rw [e2] at h4 h5
  rw [Nat.mul_one, Nat.add_zero] at h5
  rw [lmV_length] at h5 f1
  refine ⟨b, off, ra, rc, rfl, hb, h5, ?_, f1, f2⟩
  rw [show (.slice ra (l.length + 64) rc : Value) = .slice ra (l ++ mkV 64).length rc by rw [lmV_length]]
  exact h4
theorem lists_obj {s : St} {i : Nat} {o : Ob} (h : s.objs[i]? = some o) : (lists s)[i]? = some o.its := by
  have hi := (List.getElem?_eq_some_iff.1 h).1
  unfold lists
  rw [List.getElem?_append_left (by simpa using hi), List.getElem?_map, h]
  rfl
theorem flat_at : ∀ (l : List (List Fm)) (j k : Nat) (b : List Fm) (f : Fm), l[j]? = some b → b[k]? = some f → (l.flatMap (fun b => b.map (·.sl)))[((l.take j).flatMap (fun b => b.map (·.sl))).length + k]? = some f.sl
  | [], j, k, b, f, h, _ => by simp at h
  | c :: r, 0, k, b, f, h, hf => by
    simp only [List.getElem?_cons_zero, Option.some.injEq] at h
    subst h
    have hk := (List.getElem?_eq_some_iff.1 hf).1
    simp only [List.take_zero, List.flatMap_nil, List.length_nil, Nat.zero_add, List.flatMap_cons]
    rw [List.getElem?_append_left (by simpa using hk), List.getElem?_map, hf]
    rfl
  | c :: r, j + 1, k, b, f, h, hf => by
    simp only [List.getElem?_cons_succ] at h
    have ih := flat_at r j k b f h hf
    simp only [List.take_succ_cons, List.flatMap_cons, List.length_append, List.length_map]
    rw [Nat.add_assoc, List.getElem?_append_right (by simp), List.length_map, Nat.add_sub_cancel_left]
    exact ih
theorem lists_fib {s : St} {j k : Nat} {b : List Fm} {f : Fm} (h : s.fibs[j]? = some b) (hf : b[k]? = some f) : (lists s)[s.objs.length + (((s.fibs.take j).flatMap (fun b => b.map (·.sl))).length + k)]? = some f.sl := by
  unfold lists
  rw [List.getElem?_append_right (by simp), List.length_map, Nat.add_sub_cancel_left]
  exact flat_at s.fibs j k b f h hf
theorem blk2k (w : World) (o1 o2 : Obj) : ((w.alloc o1).alloc o2).heap[w.heap.size + 1]? = some o2 := by
  have := heap_alloc_new (w.alloc o1) o2
  simpa only [World.size_alloc] using this
/-- While kept looks: the second box. -/
def KI (w : World) (inp : Array Value) (wr : World) : Prop := Below w.heap.size w wr ∧ wr.heap[w.heap.size + 1]? = some (.cells inp 26)
theorem KI.past {w wr w1 : World} {inp : Array Value} (h : KI w inp wr) (k : Below wr.heap.size wr w1) : KI w inp w1 :=
  ⟨bl_past h.1 k, (k.block _ (Array.getElem?_eq_some_iff.1 h.2).1).trans h.2⟩
theorem KI.cells {w wr : World} {inp : Array Value} (h : KI w inp wr) (j : Nat) : wr.cell? ⟨w.heap.size + 1, j, none⟩ = inp[j]? := (blk_cells h.2).1 j
set_option maxRecDepth 100000 in
set_option maxHeartbeats 12800000 in
theorem kept_any {w : World} {xv rv sv : Value} {s : St} (hx : StV w xv s) (hr : RmV w rv (lists s)) (h : StV w sv s) (hs : StB s) :
    Calls Try.prog 11 #[xv, rv, sv] w fun e w' => e = .returned (.bool true) ∧ Below w.heap.size w w' := by
  have H1 := hide (fun O1 O2 => smS_any (hx.below (bl_two w O1 O2) (Nat.le_refl _)) (h.below (bl_two w O1 O2) (Nat.le_refl _)) hs)
  rw [Dc_true rfl] at H1
  obtain ⟨ta2, tc2, oa2, oc2, ba2, bc2, rfl, -, -, -, -, -, -, -, -, -⟩ := hx.shape
  obtain ⟨ta, tc, oa, oc, ba, bc, rfl, rt, ro, rb, t1, t2, o1, o2, b1, b2⟩ := h.shape
  obtain ⟨ra, rcp, rfl, hrc1, hrc2⟩ := hr.shape
  unfold maxLen at t2 o2 b2 hrc2
  have HO := hide ro
  have HFb := hide rb
  have HS := hide hs
  have HR := hide hr
  have n1 := hs.ol
  have n2 := hs.bl
  obtain ⟨NT, hNT⟩ : ∃ n, Hid (s.texts.length = n) := ⟨_, hide rfl⟩
  obtain ⟨NO, hNO⟩ : ∃ n, Hid (s.objs.length = n) := ⟨_, hide rfl⟩
  obtain ⟨NB, hNB⟩ : ∃ n, Hid (s.fibs.length = n) := ⟨_, hide rfl⟩
  obtain ⟨NL, hNL⟩ : ∃ n, Hid ((lists s).length = n) := ⟨_, hide rfl⟩
  rw [unhide hNT, unhide hNO, unhide hNB] at H1 ⊢
  rw [unhide hNL] at hrc1 HR ⊢
  rw [unhide hNT] at t1
  rw [unhide hNO] at o1 n1 HO
  rw [unhide hNB] at b1 n2 HFb
  clear h rt ro rb hs hr hx
  go_enter Try.func11, Try.ntmps11
  go_wp2_with fail
  refine (unhide H1 _ _).mono ?_
  rintro e w1 ⟨rfl, hb1⟩
  have HK0 : Hid (KI w #[.slice ta NT tc, .slice oa NO oc, .slice ba NB bc, .int .i64 s.cur, .int .i64 s.steps, .int .i64 s.spent, .int .i64 s.read] w1) := ⟨bl_past (bl_two w _ _) hb1, (hb1.block _ (by simp only [World.size_alloc]; omega)).trans (blk2k w _ _)⟩
  clear hb1 H1
  go_wp2_with fail
  go_loopg [7, 8] NO (fun g t7 t8 wr => ∃ (i : Nat), Hid (i + g = NO) ∧ t7 = .int .i64 (i : Int) ∧ t8 = .int .i64 (i : Int) ∧ Hid (KI w #[.slice ta NT tc, .slice oa NO oc, .slice ba NB bc, .int .i64 s.cur, .int .i64 s.steps, .int .i64 s.spent, .int .i64 s.read] wr))
  case atStart => exact ⟨0, by unfold Hid; omega, rfl, rfl, HK0⟩
  case round =>
    obtain ⟨i, hi, rfl, rfl, hK⟩ := hrel
    clear HK0
    have m1 := (unhide hK).cells 1
    simp at m1
    by_cases hlt : i < NO
    · obtain ⟨ob, ho⟩ : ∃ f, s.objs[i]? = some f := ⟨_, List.getElem?_eq_getElem (by rw [unhide hNO]; exact hlt)⟩
      have hsb := (unhide HS).os ob (List.mem_of_getElem? ho)
      have hli := (List.getElem?_eq_some_iff.1 (lists_obj ho)).1
      rw [unhide hNL] at hli
      obtain ⟨b, off, ia, ic, ka, kc, ea, hb, -, k1, -, -, -, -, hx, -, hsl, hsm, -, -⟩ := ((unhide HO).below (unhide hK).1 (Nat.le_refl _)).six ho
      cases ea
      obtain ⟨rb, ro, qa, qc, er, hrb, q1, hq, hql, hqm⟩ := ((unhide HR).below (unhide hK).1 (Nat.le_refl _)).one (lists_obj ho)
      cases er
      have i0 : (0 : Int) ≤ (i : Int) := by omega
      have i1 : (i : Int) < (NO : Int) := by omega
      have i2 : (i : Int) < (NL : Int) := by omega
      have hdr := bl_drew wr
      have HC := hide (keptV_any (hq.below hdr (Nat.le_refl _)) (hx.below hdr (Nat.le_refl _)) (by have := hsb.1; omega))
      obtain ⟨fl, hfl⟩ : ∃ n, Hid (ob.its.length = n) := ⟨_, hide rfl⟩
      rw [unhide hfl] at k1 q1 HC hsl hql
      unfold maxLen at hsm hqm
      clear hx hq ho hsb hli hdr
      go_wp2_with fail
      go_region_held3 (fun w' => w'.cell? ⟨w.heap.size + 1, 1, none⟩ = some (.slice (some ⟨b, off, none⟩) NO oc) ∧ w'.cell? ⟨b, off + i * 6 + 1, none⟩ = some (.slice ia fl ic) ∧ w'.cell? ⟨rb, ro + i, none⟩ = some (.slice qa (fl + 64) qc)) (first | go_keep | exact ⟨(hb1.cell (p := ⟨w.heap.size + 1, 1, none⟩) (blk_cells (unhide hK).2).2.2).trans m1, (hb1.cell (p := ⟨b, _, none⟩) hb).trans k1, (hb1.cell (p := ⟨rb, _, none⟩) hrb).trans q1⟩) (first | (go_at_call 36; refine (unhide HC).mono ?_; rintro e w2 ⟨rfl, hb1⟩))
      have HK2 : Hid (KI w #[.slice ta NT tc, .slice (some ⟨b, off, none⟩) NO oc, .slice ba NB bc, .int .i64 s.cur, .int .i64 s.steps, .int .i64 s.spent, .int .i64 s.read] w2) := (unhide hK).past (bl_past (bl_drew wr) hb1)
      clear hb1 HC m1 k1 q1 hK
      go_wp2_with fail
      go_roundg (gk - 1)
      case measure => have := unhide hi; omega
      case rel => exact ⟨i + 1, by have := unhide hi; unfold Hid; omega, by go_num, by go_num, HK2⟩
    · have hiN : NO = i := by have := unhide hi; omega
      subst hiN
      go_wp2_with fail
      go_loopg [7, 9] NB (fun g t7 t9 wr => ∃ (j n : Nat), Hid (j + g = NB) ∧ Hid (n = NO + ((s.fibs.take j).flatMap (fun b => b.map (·.sl))).length) ∧ t7 = .int .i64 (n : Int) ∧ t9 = .int .i64 (j : Int) ∧ Hid (KI w #[.slice ta NT tc, .slice oa NO oc, .slice ba NB bc, .int .i64 s.cur, .int .i64 s.steps, .int .i64 s.spent, .int .i64 s.read] wr))
      case atStart => exact ⟨0, NO, by unfold Hid; omega, by unfold Hid; simp, rfl, rfl, hK⟩
      case round =>
        obtain ⟨j, n, hj, hn, rfl, rfl, hK⟩ := hrel
        clear m1
        have m2 := (unhide hK).cells 2
        simp at m2
        by_cases hltj : j < NB
        · obtain ⟨fb, hfb⟩ : ∃ f, s.fibs[j]? = some f := ⟨_, List.getElem?_eq_getElem (by rw [unhide hNB]; exact hltj)⟩
          obtain ⟨hfbl, hfbs⟩ := (unhide HS).bs fb (List.mem_of_getElem? hfb)
          obtain ⟨FL, hFL⟩ : ∃ n, Hid (fb.length = n) := ⟨_, hide rfl⟩
          rw [unhide hFL] at hfbl
          have HFS := hide hfbs
          have HFB := hide hfb
          obtain ⟨gO, hgO⟩ : ∃ g, Hid (gk = g) := ⟨_, hide rfl⟩
          have j0 : (0 : Int) ≤ (j : Int) := by omega
          have j1 : (j : Int) < (NB : Int) := by omega
          clear hfb hfbs
          go_wp2_with fail
          go_loopg [7, 10] FL (fun g t7 t10 wr => ∃ (k m : Nat), Hid (k + g = FL) ∧ Hid (m = n + k) ∧ t7 = .int .i64 (m : Int) ∧ t10 = .int .i64 (k : Int) ∧ Hid (KI w #[.slice ta NT tc, .slice oa NO oc, .slice ba NB bc, .int .i64 s.cur, .int .i64 s.steps, .int .i64 s.spent, .int .i64 s.read] wr))
          case atStart => exact ⟨0, n, by unfold Hid; omega, by unfold Hid; omega, rfl, rfl, hK⟩
          case round =>
            clear hK m2
            obtain ⟨k, m, hk, hm, rfl, rfl, hK⟩ := hrel
            have m2 := (unhide hK).cells 2
            simp at m2
            obtain ⟨ib, io, ja, jc, ei, hib, ki, hFs, hjl, hjm⟩ := ((unhide HFb).below (unhide hK).1 (Nat.le_refl _)).one (unhide HFB)
            cases ei
            rw [unhide hFL] at ki hjl
            unfold maxLen at hjm
            by_cases hltk : k < FL
            · obtain ⟨f, hf⟩ : ∃ f, fb[k]? = some f := ⟨_, List.getElem?_eq_getElem (by rw [unhide hFL]; exact hltk)⟩
              have hsb := unhide HFS f (List.mem_of_getElem? hf)
              rw [unhide hFL] at hFs
              obtain ⟨sb, so, sa, sc, es, hsbl, -, -, k2, hx, hsl, hsm⟩ := hFs.three hf
              cases es
              have hlf := lists_fib (unhide HFB) hf
              have hme : s.objs.length + (((s.fibs.take j).flatMap (fun b => b.map (·.sl))).length + k) = m := by rw [unhide hNO, unhide hm, unhide hn]; omega
              rw [hme] at hlf
              have hli := (List.getElem?_eq_some_iff.1 hlf).1
              rw [unhide hNL] at hli
              obtain ⟨rb, ro, qa, qc, er, hrb, q1, hq, hql, hqm⟩ := ((unhide HR).below (unhide hK).1 (Nat.le_refl _)).one hlf
              cases er
              have k0' : (0 : Int) ≤ (k : Int) := by omega
              have k1' : (k : Int) < (FL : Int) := by omega
              have p0 : (0 : Int) ≤ (m : Int) := by omega
              have p1 : (m : Int) < (NL : Int) := by omega
              have hdr := bl_drew wr
              have HC := hide (keptV_any (hq.below hdr (Nat.le_refl _)) (hx.below hdr (Nat.le_refl _)) (by omega))
              obtain ⟨fl, hfl⟩ : ∃ n, Hid (f.sl.length = n) := ⟨_, hide rfl⟩
              rw [unhide hfl] at k2 q1 HC hsl hql
              unfold maxLen at hsm hqm
              clear hx hq hf hsb hdr hFs hlf hme
              go_wp2_with fail
              go_region_held3 (fun w' => w'.cell? ⟨w.heap.size + 1, 2, none⟩ = some (.slice (some ⟨ib, io, none⟩) NB bc) ∧ w'.cell? ⟨ib, io + j, none⟩ = some (.slice (some ⟨sb, so, none⟩) FL jc) ∧ w'.cell? ⟨sb, so + k * 3 + 2, none⟩ = some (.slice sa fl sc) ∧ w'.cell? ⟨rb, ro + m, none⟩ = some (.slice qa (fl + 64) qc)) (first | go_keep | exact ⟨(hb1.cell (p := ⟨w.heap.size + 1, 2, none⟩) (blk_cells (unhide hK).2).2.2).trans m2, (hb1.cell (p := ⟨ib, _, none⟩) hib).trans ki, (hb1.cell (p := ⟨sb, _, none⟩) hsbl).trans k2, (hb1.cell (p := ⟨rb, _, none⟩) hrb).trans q1⟩) (first | (go_at_call 36; refine (unhide HC).mono ?_; rintro e w2 ⟨rfl, hb1⟩))
              have HK2 : Hid (KI w #[.slice ta NT tc, .slice oa NO oc, .slice (some ⟨ib, io, none⟩) NB bc, .int .i64 s.cur, .int .i64 s.steps, .int .i64 s.spent, .int .i64 s.read] w2) := (unhide hK).past (bl_past (bl_drew wr) hb1)
              clear hb1 HC m2 k2 q1 hK ki
              go_wp2_with fail
              go_roundg (gk - 1)
              case measure => have := unhide hk; omega
              case rel => exact ⟨k + 1, m + 1, by have := unhide hk; unfold Hid; omega, by have := unhide hm; unfold Hid; omega, by go_num, by go_num, HK2⟩
            · have hkF : FL = k := by have := unhide hk; omega
              subst hkF
              have hmn : Hid (m = NO + ((s.fibs.take (j + 1)).flatMap (fun b => b.map (·.sl))).length) := by
                rw [take_push (unhide HFB), List.flatMap_append, List.length_append]
                have h1 := unhide hm
                have h2 := unhide hn
                have h3 := unhide hFL
                unfold Hid
                simp only [List.flatMap_cons, List.flatMap_nil, List.append_nil, List.length_map]
                omega
              clear hFs
              go_wp2_with fail
              go_roundg (gO - 1)
              case measure => have := unhide hj; have := unhide hgO; omega
              case rel => exact ⟨j + 1, m, by have := unhide hj; have := unhide hgO; unfold Hid; omega, hmn, rfl, by go_num, hK⟩
        · have hjN : NB = j := by have := unhide hj; omega
          subst hjN
          go_wp2_with fail
          go_ret
          exact ⟨rfl, (unhide hK).1⟩
end Go.Proofs.Ytadgiccfjppnfaa
