/-
  The document's function and Enter.
-/
import Derived.Test.YtfcgpafjhifogaaEnt
namespace Go.Proofs.Ytfcgpafjhifogaa
open Go.RowKit
set_option linter.unusedVariables false
set_option linter.unusedSimpArgs false
set_option maxRecDepth 100000 in
set_option maxHeartbeats 3200000 in
theorem rfun_any {w : World} {v : Value} {p : Pg} (h : PgV w v p) (k : Int) (hN : p.funcs.length ≤ 1048576) :
    Calls Try.prog 45 #[v, .int .i64 k] w fun e w' => e = .returned (.bool (fnAt p k).isSome) ∧ Below w.heap.size w w' := by
  obtain ⟨cv, fv, rfl, hc, hf⟩ := h
  obtain ⟨ca, cc, rfl⟩ : ∃ a c, cv = .slice a p.consts.length c := by obtain ⟨_, a, c, e, _⟩ := hc; exact ⟨a, c, e⟩
  obtain ⟨a, cap, rfl, hlc, hcm, hat⟩ := hf.at
  obtain ⟨NF, hNF⟩ : ∃ n, Hid (p.funcs.length = n) := ⟨_, hide rfl⟩
  have e1 : (fnAt p k).isSome = (decide (0 ≤ k) && decide (k < (NF : Int))) := by
    rw [← unhide hNF]
    cases hq : fnAt p k with
    | none =>
      rcases fnAt_none hq with q | q
      · rw [decide_eq_false (by omega : ¬ 0 ≤ k)]; rfl
      · rw [decide_eq_false (by omega : ¬ k < (p.funcs.length : Int)), Bool.and_false]; rfl
    | some f =>
      obtain ⟨q1, q2, _⟩ := fnAt_some hq
      rw [decide_eq_true q1, decide_eq_true q2]; rfl
  rw [unhide hNF] at hN hlc ⊢
  rw [e1]
  unfold maxLen at hcm
  have HBE : Hid (∀ o1, Below w.heap.size w (w.alloc o1)) := fun o1 => (Below.refl _ w).alloc (Nat.le_refl _) o1
  clear hat hf hc e1
  by_cases kz : 0 ≤ k
  · have kz' : decide (0 ≤ k) = true := decide_eq_true kz
    rw [kz']
    obtain ⟨b, hb⟩ : ∃ b, Hid (decide (k < (NF : Int)) = b) := ⟨_, hide rfl⟩
    have hb' := unhide hb
    rw [hb']
    go_enter Try.func45, Try.ntmps45
    go_wp2_with fail
    go_ret
    exact ⟨by simp, unhide HBE _⟩
  · have kz' : decide (0 ≤ k) = false := decide_eq_false kz
    rw [kz']
    go_enter Try.func45, Try.ntmps45
    go_wp2_with fail
    go_ret
    exact ⟨rfl, unhide HBE _⟩
theorem zrow (n : Nat) : List.replicate (n + 1) ((0 : Int), (0 : Int)) = List.replicate n (0, 0) ++ [(0, 0)] := List.replicate_succ'
set_option maxRecDepth 100000 in
set_option maxHeartbeats 6400000 in
theorem renter_any {w : World} {pv av : Value} {p : Pg} {args : List (Int × Int)} (fn : Int) (h : PgV w pv p) (ha : Rx w 2 av args.length (flt enI args)) (hN : p.funcs.length ≤ 1048576) (hA : args.length ≤ 1048576) :
    Calls Try.prog 11 #[pv, .int .i64 fn, av] w (EnP w (enF' p fn args)) := by
  obtain ⟨pa, pb, rfl⟩ : ∃ a b, pv = .agg #[a, b] := by obtain ⟨a, b, e, _⟩ := h; exact ⟨a, b, e⟩
  obtain ⟨aa, ac, rfl⟩ : ∃ a c, av = .slice a args.length c := by obtain ⟨_, a, c, e, _⟩ := ha; exact ⟨a, c, e⟩
  obtain ⟨pba, pbc, epb, hat⟩ : ∃ a c, pb = .slice a p.funcs.length c ∧ ∀ (i : Nat) (f : Fc), p.funcs[i]? = some f → ∃ b off x, a = some ⟨b, off, none⟩ ∧ b < w.heap.size ∧ FnV w f x ∧ ∀ (j : Nat) u, (enF x)[j]? = some u → w.cell? ⟨b, off + i * 5 + j, none⟩ = some u := by
    obtain ⟨_, _, e, _, hfs⟩ := h
    obtain ⟨a, c, e2, _, _, h3⟩ := hfs.at
    cases e; exact ⟨a, c, e2, h3⟩
  subst epb
  have HAT := hide hat
  have HC := hide (fun o1 o2 => rfun_any (h.below (Below.alloc2 w o1 o2) (Nat.le_refl _)) fn hN)
  obtain ⟨o, ho⟩ : ∃ o, Hid (enF' p fn args = o) := ⟨_, hide rfl⟩
  obtain ⟨g, hg⟩ : ∃ g, Hid (fnAt p fn = g) := ⟨_, hide rfl⟩
  rw [unhide ho]
  rw [unhide hg] at HC
  have HA := hide ha
  obtain ⟨n, hn⟩ : ∃ n, Hid (args.length = n) := ⟨_, hide rfl⟩
  obtain ⟨NF, hNF⟩ : ∃ n, Hid (p.funcs.length = n) := ⟨_, hide rfl⟩
  rw [unhide hn] at hA HA ⊢
  rw [unhide hNF] at hN HC ⊢
  have HO : Hid (enG g fn args = o) := by rw [← unhide ho, ← unhide hg]; rfl
  clear h ha ho hat
  go_enter Try.func11, Try.ntmps11
  go_wp2_with fail
  refine (unhide HC _ _).mono ?_
  rintro e w1 ⟨rfl, hb1⟩
  obtain ⟨b1, b2⟩ := blk2 w (.cells #[pa, .slice pba NF pbc] 25) (.cells #[.int .i64 0, .int .i64 0, .slice none 0 0] 30)
  obtain ⟨c1, f1, l1⟩ := blk_cells ((hb1.block w.heap.size (by simp only [World.size_alloc]; omega)).trans b1)
  obtain ⟨c2, f2, l2⟩ := blk_cells ((hb1.block (w.heap.size + 1) (by simp only [World.size_alloc]; omega)).trans b2)
  have HB1 : Hid (Below w.heap.size w w1) := (Below.alloc2 w _ _).trans (hb1.mono (by simp only [World.size_alloc]; omega))
  have hsz : w.heap.size + 1 + 1 ≤ w1.heap.size := by have := hb1.size; simp only [World.size_alloc] at this; exact this
  have k1 := c1 1
  have d0 := c2 0
  have d1 := c2 1
  have d2 := c2 2
  have j0 := f2 0
  have j1 := f2 1
  have j2 := f2 2
  clear c1 f1 c2 f2 b1 b2 HC hb1
  have HZH : Hid (∀ X, Fr (fun k => k = w.heap.size + 1) w1 X → Below w.heap.size w X) := fun X hX => (unhide HB1).trans (hX.below (by omega) (fun k hk e => by omega))
  cases g with
  | none =>
    obtain rfl : none = o := unhide HO
    simp only [Option.isSome_none]
    go_wp2_with fail
    have HZE := unhide HZH
    refine bodyPost_ret (v := .tuple #[.agg #[.int .i64 0, .int .i64 0, .slice none 0 0], .bool false]) ?_ rfl ?_
    · rw [results_cell_tmp rfl]
      go_simp
    · refine ⟨.slice none 0 0, rfl, by simpa [flt, fm0] using Ro.nil _ 2, HZE _ ?_, by simp [Value.ownBlock]⟩
      repeat (first | exact Fr.refl _ _ | refine Fr.setCell ?_ _ (by simp) _ | refine Fr.alloc ?_ _)
  | some g =>
    simp only [Option.isSome_some]
    obtain ⟨q0, q1, q2⟩ := fnAt_some (unhide hg)
    obtain ⟨K, hK⟩ : ∃ K : Nat, Hid (fn.toNat = K) := ⟨_, hide rfl⟩
    rw [unhide hK] at q2
    obtain ⟨bf, off, x, epa, lbf, hx, hcs⟩ := unhide HAT K g q2
    subst epa
    obtain ⟨a1, c1, a2, c2, rfl⟩ := hx.parts
    have hfk : fn = (K : Int) := by have := unhide hK; omega
    have r0 := ((unhide HB1).cell (p := ⟨bf, off + K * 5 + 0, none⟩) lbf).trans (hcs 0 _ rfl)
    have r1 := ((unhide HB1).cell (p := ⟨bf, off + K * 5 + 1, none⟩) lbf).trans (hcs 1 _ rfl)
    have r2 := ((unhide HB1).cell (p := ⟨bf, off + K * 5 + 2, none⟩) lbf).trans (hcs 2 _ rfl)
    have r3 := ((unhide HB1).cell (p := ⟨bf, off + K * 5 + 3, none⟩) lbf).trans (hcs 3 _ rfl)
    have r4 := ((unhide HB1).cell (p := ⟨bf, off + K * 5 + 4, none⟩) lbf).trans (hcs 4 _ rfl)
    rw [Nat.add_zero] at r0
    have lb1 : bf < w1.heap.size := by omega
    have kb0 : (0 : Int) ≤ (K : Int) := by omega
    have kb1 : (K : Int) < (NF : Int) := by rw [unhide hNF] at q1; omega
    subst hfk
    clear q0 q1 q2 hx hcs hg hK lbf HAT
    by_cases m1 : (n : Int) = g.params
    · by_cases m2 : g.params ≤ g.locals
      · by_cases m3 : g.locals ≤ 64
        · obtain ⟨L, hL⟩ : ∃ L : Nat, Hid (g.locals = (L : Int)) := ⟨g.locals.toNat, by unfold Hid; omega⟩
          have hL' := unhide hL
          have hnL : n ≤ L := by omega
          have hL64 : L ≤ 64 := by omega
          have HO2 : Hid (o = some ⟨(K : Int), 0, args ++ List.replicate (L - n) (0, 0)⟩) := by
            unfold Hid
            have := unhide HO
            simp only [enG] at this
            rw [unhide hn, if_pos ⟨m1, m2, m3⟩, hL', Int.toNat_natCast] at this
            exact this.symm
          obtain rfl := unhide HO2
          rw [hL'] at r2
          rw [← m1] at r1
          have p1 : ((n : Int) != (n : Int)) = false := by simp
          have p2 : decide ((L : Int) < (n : Int)) = false := decide_eq_false (by omega)
          have p4 : decide (L < n) = false := decide_eq_false (by omega)
          have p3 : decide ((64 : Int) < (L : Int)) = false := decide_eq_false (by omega)
          clear m1 m2 m3 hL' hL
          have HCP : Hid (∀ O, Calls Try.prog 46 #[.slice aa n ac] (w1.alloc O) fun e w' => ∃ v', e = .returned v' ∧ Gx (w1.alloc O) 2 enI args v' w') := fun O => copyV_any (by have := (unhide HA).below ((unhide HB1).alloc (unhide HB1).size O) (Nat.le_refl _); rw [← unhide hn] at this ⊢; exact this) (by have := unhide hn; omega)
          go_wp2_with fail
          refine (unhide HCP _).mono ?_
          rintro e w3 ⟨v3, rfl, hg3⟩
          obtain ⟨W, hW⟩ : ∃ W, Hid (w1.alloc (.cells #[.string g.name, .int .i64 (n : Int), .int .i64 (L : Int), .slice a1 g.code.length c1, .slice a2 g.hs.length c2] 83) = W) := ⟨_, hide rfl⟩
          have hG0 : Gx W 2 enI (args ++ List.replicate 0 (0, 0)) v3 w3 := by rw [← unhide hW]; simpa using hg3
          have HWS : Hid (W.heap.size = w1.heap.size + 1) := by rw [← unhide hW]; exact World.size_alloc _ _
          have HWB : Hid (Below w1.heap.size w1 W) := by rw [← unhide hW]; exact (Below.refl _ _).alloc (Nat.le_refl _) _
          have HWL : Hid (W.cell? ⟨w1.heap.size, 2, none⟩ = some (.int .i64 (L : Int)) ∧ w1.heap.size < W.heap.size) := by
            have := heap_alloc_new w1 (.cells #[.string g.name, .int .i64 (n : Int), .int .i64 (L : Int), .slice a1 g.code.length c1, .slice a2 g.hs.length c2] 83)
            rw [unhide hW] at this
            exact ⟨(blk_cells this).1 2, (blk_cells this).2.2⟩
          have HG0 := hide hG0
          have HD2 : Hid (w1.cell? ⟨w.heap.size + 1, 0, none⟩ = some (.int .i64 0) ∧ w1.cell? ⟨w.heap.size + 1, 1, none⟩ = some (.int .i64 0) ∧ w1.cell? ⟨w.heap.size + 1, 2, none⟩ = some (.slice none 0 0) ∧ w1.frozen? ⟨w.heap.size + 1, 0, none⟩ = false ∧ w1.frozen? ⟨w.heap.size + 1, 1, none⟩ = false ∧ w1.frozen? ⟨w.heap.size + 1, 2, none⟩ = false) := ⟨d0, d1, d2, j0, j1, j2⟩
          clear hg3 hG0 HCP r0 r1 r2 r3 r4 d0 d1 d2 j0 j1 j2 k1
          go_wp2_with fail
          go_loopg [9] (L - n) (fun gg t9 wr => ∃ (i : Nat) (v : Value), Hid (i + gg = L - n) ∧ t9 = v ∧ Hid (Gx W 2 enI (args ++ List.replicate i (0, 0)) v wr))
          case atStart => exact ⟨0, _, by unfold Hid; omega, rfl, unhide HG0⟩
          case round =>
            clear HG0
            obtain ⟨i, v, hi, e9, hG⟩ := hrel
            have hrl : (args ++ List.replicate i ((0 : Int), (0 : Int))).length = n + i := by rw [List.length_append, unhide hn, List.length_replicate]
            obtain ⟨va, vc, ev, hvc, hvm⟩ := (unhide hG).1.shape
            rw [hrl] at ev hvc
            rw [ev] at e9
            subst e9
            subst ev
            have cL := ((unhide hG).2.1.cell (p := ⟨w1.heap.size, 2, none⟩) (unhide HWL).2).trans (unhide HWL).1
            have lL := Nat.lt_of_lt_of_le (unhide HWL).2 (unhide hG).2.1.size
            by_cases hlt : i < L - n
            · have HRo : Hid (Ro wr 2 (.slice va (n + i) vc) (args ++ List.replicate i ((0 : Int), (0 : Int))).length (flt enI (args ++ List.replicate i (0, 0)))) := (unhide hG).1
              have t1 : (n : Int) + (i : Int) < (L : Int) := by omega
              have t2 : n + i < L := by omega
              have HRL := hide hrl
              clear hrl
              go_wp2_with (first | (at_builtin; refine appV rfl _ _ rfl _ (args ++ List.replicate i (0, 0)) rfl ((unhide HRo).keep (fun g hg => Below.heap_alloc _ _ _ ((unhide HRo).lt g hg))) ⟨wr.heap.size, 0, none⟩ 1 (0, 0) rfl (new_cells _ _ _) (by rw [unhide HRL]; omega) ?_))
              intro v' w' hr hg' hat
              have hG2 := (unhide hG).push hr (by simp) hg' (by simpa using hat)
              rw [List.append_assoc, ← zrow] at hG2
              have HG2 := hide hG2
              clear hr hg' hat hG2
              go_wp2_with fail
              go_roundg (gk - 1)
              case measure => have := unhide hi; omega
              case rel => exact ⟨i + 1, v', by have := unhide hi; unfold Hid; omega, rfl, HG2⟩
            · have hiL : L - n = i := by have := unhide hi; omega
              subst hiL
              have t1 : decide ((n : Int) + ((L - n : Nat) : Int) < (L : Int)) = false := decide_eq_false (by omega)
              have t2 : n + (L - n) = L := by omega
              have hG0 := unhide hG
              rw [t2] at hG0
              rw [t2] at hvc ⊢
              clear t1
              have t3 : decide ((L : Int) < (L : Int)) = false := decide_eq_false (by omega)
              have hb3 := (unhide HWB).trans (hG0.2.1.mono (by have := unhide HWS; omega))
              obtain ⟨d0, d1, d2, j0, j1, j2⟩ := unhide HD2
              have y0 := (hb3.cell (p := ⟨w.heap.size + 1, 0, none⟩) l2).trans d0
              have y1 := (hb3.cell (p := ⟨w.heap.size + 1, 1, none⟩) l2).trans d1
              have y2 := (hb3.cell (p := ⟨w.heap.size + 1, 2, none⟩) l2).trans d2
              have z0 := ((Fr.of_below (S := fun _ => False) hb3).frozen (a := ⟨w.heap.size + 1, 0, none⟩) l2 (fun e => e)).trans j0
              have z1 := ((Fr.of_below (S := fun _ => False) hb3).frozen (a := ⟨w.heap.size + 1, 1, none⟩) l2 (fun e => e)).trans j1
              have z2 := ((Fr.of_below (S := fun _ => False) hb3).frozen (a := ⟨w.heap.size + 1, 2, none⟩) l2 (fun e => e)).trans j2
              have l4 : w.heap.size + 1 < wr.heap.size := Nat.lt_of_lt_of_le l2 hb3.size
              have HG0 := hide hG0
              have HB3 := hide hb3
              have HHRL := hide hrl
              have HT2 := hide t2
              clear hG0 hb3 d0 d1 d2 j0 j1 j2 hG hrl t2
              go_wp2_with fail
              refine bodyPost_ret (v := .tuple #[.agg #[.int .i64 (K : Int), .int .i64 0, .slice va L vc], .bool true]) ?_ rfl ?_
              · rw [results_cell_tmp rfl]
                go_simp
              · refine ⟨_, rfl, ?_, ?_, fun k hk => ?_⟩
                · show Ro _ 2 _ (args ++ List.replicate (L - n) ((0 : Int), (0 : Int))).length _
                  refine (unhide HG0).1.fr (S := fun k => k = w.heap.size + 1) ?_ (fun k hk e => by have h1 := (unhide HG0).2.2 k hk; have h2 := unhide HWS; omega)
                  repeat (first | exact Fr.refl _ _ | refine Fr.setCell ?_ _ (by simp) _)
                · refine ((unhide HB1).trans ((unhide HB3).mono (unhide HB1).size)).trans (Fr.below (S := fun k => k = w.heap.size + 1) ?_ (by have := (unhide HB3).size; omega) (fun k hk e => by omega))
                  repeat (first | exact Fr.refl _ _ | refine Fr.setCell ?_ _ (by simp) _)
                · have h1 := (unhide HG0).2.2 k hk
                  have h2 := unhide HWS
                  omega
        · obtain rfl : none = o := by
            have := unhide HO
            simp only [enG] at this
            rw [if_neg (fun q => m3 q.2.2)] at this
            exact this
          rw [← m1] at r1
          have p1 : ((n : Int) != (n : Int)) = false := by simp
          have p2 : decide (g.locals < (n : Int)) = false := decide_eq_false (by omega)
          have p3 : decide ((64 : Int) < g.locals) = true := decide_eq_true (by omega)
          clear m1 m2 m3
          go_wp2_with fail
          have HZE := unhide HZH
          refine bodyPost_ret (v := .tuple #[.agg #[.int .i64 0, .int .i64 0, .slice none 0 0], .bool false]) ?_ rfl ?_
          · rw [results_cell_tmp rfl]
            go_simp
          · refine ⟨.slice none 0 0, rfl, by simpa [flt, fm0] using Ro.nil _ 2, HZE _ ?_, by simp [Value.ownBlock]⟩
            repeat (first | exact Fr.refl _ _ | refine Fr.setCell ?_ _ (by simp) _ | refine Fr.alloc ?_ _)
      · obtain rfl : none = o := by
          have := unhide HO
          simp only [enG] at this
          rw [if_neg (fun q => m2 q.2.1)] at this
          exact this
        rw [← m1] at r1
        have p1 : ((n : Int) != (n : Int)) = false := by simp
        have p2 : decide (g.locals < (n : Int)) = true := decide_eq_true (by omega)
        clear m1 m2
        go_wp2_with fail
        have HZE := unhide HZH
        refine bodyPost_ret (v := .tuple #[.agg #[.int .i64 0, .int .i64 0, .slice none 0 0], .bool false]) ?_ rfl ?_
        · rw [results_cell_tmp rfl]
          go_simp
        · refine ⟨.slice none 0 0, rfl, by simpa [flt, fm0] using Ro.nil _ 2, HZE _ ?_, by simp [Value.ownBlock]⟩
          repeat (first | exact Fr.refl _ _ | refine Fr.setCell ?_ _ (by simp) _ | refine Fr.alloc ?_ _)
    · obtain rfl : none = o := by
        have := unhide HO
        simp only [enG] at this
        rw [unhide hn, if_neg (fun q => m1 q.1)] at this
        exact this
      have p1 : (g.params != (n : Int)) = true := by simpa using fun e => m1 e.symm
      clear m1
      go_wp2_with fail
      have HZE := unhide HZH
      refine bodyPost_ret (v := .tuple #[.agg #[.int .i64 0, .int .i64 0, .slice none 0 0], .bool false]) ?_ rfl ?_
      · rw [results_cell_tmp rfl]
        go_simp
      · refine ⟨.slice none 0 0, rfl, by simpa [flt, fm0] using Ro.nil _ 2, HZE _ ?_, by simp [Value.ownBlock]⟩
        repeat (first | exact Fr.refl _ _ | refine Fr.setCell ?_ _ (by simp) _ | refine Fr.alloc ?_ _)
end Go.Proofs.Ytfcgpafjhifogaa
