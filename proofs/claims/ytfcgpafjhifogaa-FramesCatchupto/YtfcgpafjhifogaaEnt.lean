/-
  Enter.
-/
import Derived.Test.YtfcgpafjhifogaaRet
namespace Go.Proofs.Ytfcgpafjhifogaa
open Go.RowKit
set_option linter.unusedVariables false
set_option linter.unusedSimpArgs false
/-- copy of a row onto the beginning of another. -/
theorem copy_onto {P : Program} {w : World} {x : Value} {n m : Nat} {xs news : List Value} {size : Nat} (t ty e : TypeId) (ht : P.underlying t = some (.slice e)) (i : TypeInfo) (hi : P.info? e = some i) (hs : i.size = size)
    {g off cap : Nat} (h : Ro w size (.slice (some ⟨g, off, none⟩) n cap) n xs) (hx : Rx w size x m news) (hm : m ≤ n) (h1 : ∀ u ∈ news, u.oneCell' = true) :
    ∃ w', (Builtin.copy_ #[t, t] ty #[.slice (some ⟨g, off, none⟩) n cap, x]).run P w = .ok (goInt m) w' ∧ Ro w' size (.slice (some ⟨g, off, none⟩) n cap) n (news ++ xs.drop (m * size)) ∧ Fr (fun b => b = g) w w' := by
  obtain ⟨hl, a, c, rfl, hmc, hcm, hcell⟩ := hx
  have hxl := h.1
  obtain ⟨_, _, e1, hcap, _⟩ := h.shape
  cases e1
  have hmn : m * size ≤ n * size := Nat.mul_le_mul_right _ hm
  have hnc : n * size ≤ cap * size := Nat.mul_le_mul_right _ hcap
  have hmin : Nat.min m n = m := Nat.min_eq_left hm
  have hst := run_storeCells_cells (P := P) g off news 0 w (by
    rw [hl]
    intro j hj
    rcases h.2 with ⟨e2, _⟩ | ⟨g', off', cap', cur, t', e2, hh, _, _, h5, _⟩
    · cases e2
    · cases e2
      have : off + j < cur.size := by omega
      simp [World.cell?, hh]
      omega) (by intro j _; exact h.free rfl _) h1
  simp only [Nat.add_zero] at hst
  obtain ⟨k1, k2⟩ := h.sets rfl (o := off) (m := n) (vs := news) (ys := news ++ xs.drop (m * size)) (by omega) (by rw [hl]; omega) hcap (by rw [List.length_append, List.length_drop, hl, hxl]; omega) (fun j hj => by
    by_cases q : j < m * size
    · rw [if_pos (by omega), List.getElem?_append_left (by omega)]
      congr 1
      omega
    · rw [if_neg (by omega), List.getElem?_append_right (by omega), List.getElem?_drop, hl]
      congr 1
      omega) (fun j hj q => by omega)
  refine ⟨_, ?_, k1, ⟨k2.os, k2.tape, k2.output, k2.size, fun b hb hn => k2.block b hb (fun e => hn (by cases e; rfl))⟩⟩
  by_cases h0 : 0 < m
  · obtain ⟨b, o, rfl, hb, hc⟩ := hcell h0
    have hf := run_firstCells_some (P := P) w size m ⟨b, o, none⟩ m c news hl (fun j u hu => by
      have hj : j < m * size := by have := (List.getElem?_eq_some_iff.1 hu).1; omega
      rw [Go.WideShapes.add_plain, hc j hj, hu])
    simp [Builtin.copy_, run_underlying ht, Builtin.lenOf, hmin, sizeOf, typeInfo, hi, hs, hf, hst]
  · obtain rfl : m = 0 := by omega
    obtain rfl : news = [] := List.eq_nil_of_length_eq_zero (by simpa using hl)
    have hf : (Builtin.firstCells size 0 (.slice a 0 c)).run P w = .ok #[] w := by
      cases a with
      | none => exact run_firstCells_none w size 0 0 c
      | some b => exact run_firstCells_some w size 0 b 0 c [] (by simp) (by simp)
    simp [Builtin.copy_, run_underlying ht, Builtin.lenOf, sizeOf, typeInfo, hi, hs, hf, hst]
theorem own_at {q o n c k : Nat} (h : (Value.slice (some ⟨q, o, none⟩) n c).ownBlock = some k) : k = q := by cases h; rfl
/-- The frame with which a function begins. -/
def enG (g : Option Fc) (fn : Int) (args : List (Int × Int)) : Option Fm := match g with
  | none => none
  | some g => if (args.length : Int) = g.params ∧ g.params ≤ g.locals ∧ g.locals ≤ 64 then some ⟨fn, 0, args ++ List.replicate (g.locals.toNat - args.length) (0, 0)⟩ else none
def enF' (p : Pg) (fn : Int) (args : List (Int × Int)) : Option Fm := enG (fnAt p fn) fn args
/-- What Enter answers. -/
def EnP (w : World) (o : Option Fm) (e : Ending) (w' : World) : Prop := ∃ sv, e = .returned (.tuple #[.agg #[.int .i64 (o.getD fm0).fn, .int .i64 (o.getD fm0).pc, sv], .bool o.isSome]) ∧ Gx w 2 enI (o.getD fm0).sl sv w'
set_option maxRecDepth 100000 in
set_option maxHeartbeats 6400000 in
theorem enter_any {w : World} {pv av : Value} {p : Pg} {args : List (Int × Int)} (fn : Int) (h : PgV w pv p) (ha : Rx w 2 av args.length (flt enI args)) (hN : p.funcs.length ≤ 1048576) (hA : args.length ≤ 1048576) :
    Calls Try.prog 12 #[pv, .int .i64 fn, av] w (EnP w (enF' p fn args)) := by
  obtain ⟨pa, pb, rfl⟩ : ∃ a b, pv = .agg #[a, b] := by obtain ⟨a, b, e, _⟩ := h; exact ⟨a, b, e⟩
  obtain ⟨aa, ac, rfl⟩ : ∃ a c, av = .slice a args.length c := by obtain ⟨_, a, c, e, _⟩ := ha; exact ⟨a, c, e⟩
  have HC := hide (fun o1 o2 => function_any (h.below (Below.alloc2 w o1 o2) (Nat.le_refl _)) fn hN)
  obtain ⟨o, ho⟩ : ∃ o, Hid (enF' p fn args = o) := ⟨_, hide rfl⟩
  obtain ⟨g, hg⟩ : ∃ g, Hid (fnAt p fn = g) := ⟨_, hide rfl⟩
  rw [unhide ho]
  rw [unhide hg] at HC
  have HA := hide ha
  obtain ⟨n, hn⟩ : ∃ n, Hid (args.length = n) := ⟨_, hide rfl⟩
  rw [unhide hn] at hA HA ⊢
  have HO : Hid (enG g fn args = o) := by rw [← unhide ho, ← unhide hg]; rfl
  clear h ha ho
  go_enter Try.func12, Try.ntmps12
  go_wp2_with fail
  refine (unhide HC _ _).mono ?_
  rintro e w1 ⟨x, rfl, hx, hb1⟩
  obtain ⟨b1, b2⟩ := blk2 w (.cells #[pa, pb] 25) (.cells #[.int .i64 0, .int .i64 0, .slice none 0 0] 30)
  obtain ⟨c2, f2, l2⟩ := blk_cells ((hb1.block (w.heap.size + 1) (by simp only [World.size_alloc]; omega)).trans b2)
  have HB1 : Hid (Below w.heap.size w w1) := (Below.alloc2 w _ _).trans (hb1.mono (by simp only [World.size_alloc]; omega))
  have hsz : w.heap.size + 1 + 1 ≤ w1.heap.size := by have := hb1.size; simp only [World.size_alloc] at this; exact this
  obtain ⟨x0, x1, x2, x3, x4⟩ := x
  obtain ⟨e0, e1, e2, e3, e4⟩ := hx
  obtain ⟨xa, xn, xc, E3⟩ : ∃ a n c, x3 = .slice a n c := by obtain ⟨_, a, c, e, _⟩ := e3; exact ⟨a, _, c, e⟩
  obtain ⟨ya, yn, yc, E4⟩ : ∃ a n c, x4 = .slice a n c := by obtain ⟨_, a, c, e, _⟩ := e4; exact ⟨a, _, c, e⟩
  simp only at e0 e1 e2
  subst e0 e1 e2 E3 E4
  clear e3 e4
  have d0 := c2 0
  have d1 := c2 1
  have d2 := c2 2
  have j0 := f2 0
  have j1 := f2 1
  have j2 := f2 2
  clear c2 f2 b1 b2 HC hb1
  have HZE : ∀ X, Fr (fun k => k = w.heap.size + 1) w1 X → Below w.heap.size w X := fun X hX => (unhide HB1).trans (hX.below (by omega) (fun k hk e => by omega))
  have HZH := hide HZE
  clear HZE
  cases g with
  | none =>
    obtain rfl : none = o := unhide HO
    simp only [Option.isSome_none, Option.getD_none, fc0]
    go_wp2_with fail
    have HZE := unhide HZH
    refine bodyPost_ret (v := .tuple #[.agg #[.int .i64 0, .int .i64 0, .slice none 0 0], .bool false]) ?_ rfl ?_
    · rw [results_cell_tmp rfl]
      go_simp
    · refine ⟨.slice none 0 0, rfl, by simpa [flt, fm0] using Ro.nil _ 2, HZE _ ?_, by simp [Value.ownBlock]⟩
      repeat (first | exact Fr.refl _ _ | refine Fr.setCell ?_ _ (by simp) _ | refine Fr.alloc ?_ _)
  | some g =>
    simp only [Option.isSome_some, Option.getD_some]
    by_cases m1 : (n : Int) = g.params
    · by_cases m2 : g.params ≤ g.locals
      · by_cases m3 : g.locals ≤ 64
        · obtain ⟨L, hL⟩ : ∃ L : Nat, Hid (g.locals = (L : Int)) := ⟨g.locals.toNat, by unfold Hid; omega⟩
          have hL' := unhide hL
          have hnL : n ≤ L := by omega
          have HO2 : Hid (o = some ⟨fn, 0, args ++ List.replicate (L - n) (0, 0)⟩) := by
            unfold Hid
            have := unhide HO
            simp only [enG] at this
            rw [unhide hn, if_pos ⟨m1, m2, m3⟩, hL', Int.toNat_natCast] at this
            exact this.symm
          obtain rfl := unhide HO2
          rw [hL']
          rw [← m1]
          have p1 : ((n : Int) != (n : Int)) = false := by simp
          have p2 : decide ((L : Int) < (n : Int)) = false := decide_eq_false (by omega)
          have p3 : decide ((64 : Int) < (L : Int)) = false := decide_eq_false (by omega)
          obtain ⟨i3, hi3, hz3, hs3, hb3⟩ := info_parts Try.info41
          have hmk : ∀ W : World, (Instr.makeSlice 26 (.int .i64 (L : Int)) (.int .i64 (L : Int))).run Try.prog W = .ok (.slice (some ⟨W.heap.size, 0, none⟩) L L) (W.alloc (.cells (madeCells (Value.agg #[.int .i64 0, .int .i64 0]).cells (L * 2)) 41)) := fun W => by
            have := run_make (P := Try.prog) W 26 41 i3 _ Try.underlying26 hi3 hz3 .i64 .i64 (L : Int) (L : Int) (by omega) (by omega) (by rw [hb3]; omega) (by omega)
            rw [hs3] at this
            exact this
          obtain ⟨W2, hW2⟩ : ∃ W, Hid (w1.alloc (Obj.cells #[.string g.name, .int .i64 (n : Int), .int .i64 (L : Int), .slice xa xn xc, .slice ya yn yc] 83) = W) := ⟨_, hide rfl⟩
          have hF2 : Fr (fun _ => False) w1 W2 := by rw [← unhide hW2]; exact (Fr.refl _ _).alloc _
          have hro := made_ro enI ((0 : Int), (0 : Int)) (Value.agg #[.int .i64 0, .int .i64 0]).cells 2 zI (by decide) rfl W2 41 L (by unfold maxLen; omega)
          have hF3 := hF2.alloc (.cells (madeCells (Value.agg #[.int .i64 0, .int .i64 0]).cells (L * 2)) 41)
          have hxs := ((unhide HA).below (unhide HB1) (Nat.le_refl _)).fr hF3 (fun _ _ e => e)
          obtain ⟨w4, hrun, hro4, hF4⟩ := copy_onto (P := Try.prog) 26 0 41 Try.underlying26 i3 hi3 hs3 hro hxs hnL (oneI args)
          have hrun' : ∀ ty, (Builtin.copy_ #[26, 26] ty #[.slice (some ⟨W2.heap.size, 0, none⟩) L L, .slice aa n ac]).run Try.prog (W2.alloc (.cells (madeCells #[.int .i64 0, .int .i64 0] (L * 2)) 41)) = .ok (goInt n) w4 := fun ty => hrun
          have hlist : flt enI args ++ (flt enI (List.replicate L ((0 : Int), (0 : Int)))).drop (n * 2) = flt enI (args ++ List.replicate (L - n) (0, 0)) := by
            rw [flt_append, flt_drop zI]
            congr 2
            rw [List.drop_replicate]
          rw [hlist] at hro4
          have hW2s : W2.heap.size = w1.heap.size + 1 := by rw [← unhide hW2]; exact World.size_alloc _ _
          have hFF : Fr (fun k => k = W2.heap.size) w1 w4 := (hF3.mono (fun _ _ e => e.elim)).trans hF4
          have y0 := (hFF.cell (a := ⟨w.heap.size + 1, 0, none⟩) l2 (by show ¬ (w.heap.size + 1 = W2.heap.size); omega)).trans d0
          have y1 := (hFF.cell (a := ⟨w.heap.size + 1, 1, none⟩) l2 (by show ¬ (w.heap.size + 1 = W2.heap.size); omega)).trans d1
          have y2 := (hFF.cell (a := ⟨w.heap.size + 1, 2, none⟩) l2 (by show ¬ (w.heap.size + 1 = W2.heap.size); omega)).trans d2
          have z0 := (hFF.frozen (a := ⟨w.heap.size + 1, 0, none⟩) l2 (by show ¬ (w.heap.size + 1 = W2.heap.size); omega)).trans j0
          have z1 := (hFF.frozen (a := ⟨w.heap.size + 1, 1, none⟩) l2 (by show ¬ (w.heap.size + 1 = W2.heap.size); omega)).trans j1
          have z2 := (hFF.frozen (a := ⟨w.heap.size + 1, 2, none⟩) l2 (by show ¬ (w.heap.size + 1 = W2.heap.size); omega)).trans j2
          have l4 : w.heap.size + 1 < w4.heap.size := Nat.lt_of_lt_of_le l2 hFF.size
          have HRO := hide hro4
          have HFF := hide hFF
          rw [hW2s, ← unhide hW2] at hrun'
          have HW2s := hide hW2s
          clear hrun hro4 hFF hF4 hF3 hF2 hro hxs hlist m1 m2 m3 hL' hW2s
          go_wp2_with fail
          refine bodyPost_ret (v := .tuple #[.agg #[.int .i64 fn, .int .i64 0, .slice (some ⟨w1.heap.size + 1, 0, none⟩) L L], .bool true]) ?_ rfl ?_
          · rw [results_cell_tmp rfl]
            go_simp
          · have hs1 := unhide HW2s
            have hlen : (args ++ List.replicate (L - n) ((0 : Int), (0 : Int))).length = L := by rw [List.length_append, unhide hn, List.length_replicate]; omega
            refine ⟨_, rfl, ?_, ?_, fun k hk => ?_⟩
            · show Ro _ 2 _ (args ++ List.replicate (L - n) ((0 : Int), (0 : Int))).length _
              rw [hlen]
              have := unhide HRO
              rw [hs1] at this
              refine this.fr (S := fun k => k = w.heap.size + 1) ?_ (fun k hk e => by have := own_at hk; omega)
              repeat (first | exact Fr.refl _ _ | refine Fr.setCell ?_ _ (by simp) _)
            · refine (unhide HB1).trans (Fr.below (S := fun k => k = W2.heap.size ∨ k = w.heap.size + 1) ?_ (by omega) (fun k hk e => by omega))
              refine Fr.trans ((unhide HFF).mono (fun _ _ e => .inl e)) ?_
              repeat (first | exact Fr.refl _ _ | refine Fr.setCell ?_ _ (by simp) _)
            · have := own_at hk
              omega
        · obtain rfl : none = o := by
            have := unhide HO
            simp only [enG] at this
            rw [if_neg (fun q => m3 q.2.2)] at this
            exact this
          rw [← m1]
          have p1 : ((n : Int) != (n : Int)) = false := by simp
          have p2 : decide (g.locals < (n : Int)) = false := decide_eq_false (by omega)
          have p3 : decide ((64 : Int) < g.locals) = true := decide_eq_true (by omega)
          clear m1 m2 m3
          go_wp2_with fail
          have HZE := unhide HZH
          refine bodyPost_ret (v := .tuple #[.agg #[.int .i64 0, .int .i64 0, .slice none 0 0], .bool false]) ?_ rfl ?_
          · rw [results_cell_tmp rfl]
            go_simp
          · refine ⟨.slice none 0 0, rfl, by simpa [flt, fm0] using Ro.nil _ 2, HZE _ ?_, by simp [Value.ownBlock]⟩
            repeat (first | exact Fr.refl _ _ | refine Fr.setCell ?_ _ (by simp) _ | refine Fr.alloc ?_ _)
      · obtain rfl : none = o := by
          have := unhide HO
          simp only [enG] at this
          rw [if_neg (fun q => m2 q.2.1)] at this
          exact this
        rw [← m1]
        have p1 : ((n : Int) != (n : Int)) = false := by simp
        have p2 : decide (g.locals < (n : Int)) = true := decide_eq_true (by omega)
        clear m1 m2
        go_wp2_with fail
        have HZE := unhide HZH
        refine bodyPost_ret (v := .tuple #[.agg #[.int .i64 0, .int .i64 0, .slice none 0 0], .bool false]) ?_ rfl ?_
        · rw [results_cell_tmp rfl]
          go_simp
        · refine ⟨.slice none 0 0, rfl, by simpa [flt, fm0] using Ro.nil _ 2, HZE _ ?_, by simp [Value.ownBlock]⟩
          repeat (first | exact Fr.refl _ _ | refine Fr.setCell ?_ _ (by simp) _ | refine Fr.alloc ?_ _)
    · obtain rfl : none = o := by
        have := unhide HO
        simp only [enG] at this
        rw [unhide hn, if_neg (fun q => m1 q.1)] at this
        exact this
      have p1 : ((n : Int) != g.params) = true := by simpa using m1
      clear m1
      go_wp2_with fail
      have HZE := unhide HZH
      refine bodyPost_ret (v := .tuple #[.agg #[.int .i64 0, .int .i64 0, .slice none 0 0], .bool false]) ?_ rfl ?_
      · rw [results_cell_tmp rfl]
        go_simp
      · refine ⟨.slice none 0 0, rfl, by simpa [flt, fm0] using Ro.nil _ 2, HZE _ ?_, by simp [Value.ownBlock]⟩
        repeat (first | exact Fr.refl _ _ | refine Fr.setCell ?_ _ (by simp) _ | refine Fr.alloc ?_ _)
end Go.Proofs.Ytfcgpafjhifogaa
