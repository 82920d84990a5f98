/-
  The table while it is filled.
-/
import Derived.Test.YtpbdmbmafjkinaaDoorAk
namespace Go.Proofs.YtpbdmbmafjkinaaDoor
open Go.RowKit
set_option linter.unusedVariables false
set_option linter.unusedSimpArgs false
/-- The box of an instruction. -/
def IX (w : World) (x : RIn) (aa : Option Addr) (ac : Nat) (ea : Option Addr) (ec : Nat) (X : World) : Prop := Below w.heap.size w X ∧ X.heap[w.heap.size]? = some (.cells #[.int .i64 x.op, .int .i64 x.code, .int .i64 x.dst, .slice aa x.args.length ac, .int .i64 x.n, .int .i64 x.pc, .int .i64 x.need, .slice ea x.ex.length ec] 51)
theorem IX.on {w X Y : World} {x : RIn} {aa ea : Option Addr} {ac ec : Nat} (h : IX w x aa ac ea ec X) (f : Below X.heap.size X Y) : IX w x aa ac ea ec Y :=
  ⟨h.1.trans (f.mono h.1.size), (f.block _ (Array.getElem?_eq_some_iff.1 h.2).1).trans h.2⟩
theorem IX.c {w X : World} {x : RIn} {aa ea : Option Addr} {ac ec : Nat} (h : IX w x aa ac ea ec X) : w.heap.size < X.heap.size ∧ X.cell? ⟨w.heap.size, 0, none⟩ = some (.int .i64 x.op) ∧ X.cell? ⟨w.heap.size, 1, none⟩ = some (.int .i64 x.code) ∧ X.cell? ⟨w.heap.size, 2, none⟩ = some (.int .i64 x.dst) ∧ X.cell? ⟨w.heap.size, 3, none⟩ = some (.slice aa x.args.length ac) ∧ X.cell? ⟨w.heap.size, 4, none⟩ = some (.int .i64 x.n) ∧ X.cell? ⟨w.heap.size, 5, none⟩ = some (.int .i64 x.pc) ∧ X.cell? ⟨w.heap.size, 6, none⟩ = some (.int .i64 x.need) ∧ X.cell? ⟨w.heap.size, 7, none⟩ = some (.slice ea x.ex.length ec) := by
  obtain ⟨q1, _, q3⟩ := blk_cells h.2
  exact ⟨q3, q1 0, q1 1, q1 2, q1 3, q1 4, q1 5, q1 6, q1 7⟩
theorem inS_nat (M : Rset) (r : Nat) : inS M (r : Int) = M r := by simp [inS]
set_option maxRecDepth 100000 in
set_option maxHeartbeats 6400000 in
theorem rule_any {w : World} {D : Nat → Prop} {x : RIn} {aa ea : Option Addr} {ac ec : Nat} {M : Rset} {bv : Value} (h : InP D w x ⟨x.op, x.code, x.dst, .slice aa x.args.length ac, x.n, x.pc, x.need, .slice ea x.ex.length ec⟩) (hB : BS w M bv) (hs : Sup M) (r : Nat) (hA : x.args.length ≤ 1048576) (hE : x.ex.length ≤ 1048576) (hS : ∀ s ∈ x.ex, s.sl.length ≤ 1048576) :
    Calls Tryd.prog 39 #[.agg #[.int .i64 x.op, .int .i64 x.code, .int .i64 x.dst, .slice aa x.args.length ac, .int .i64 x.n, .int .i64 x.pc, .int .i64 x.need, .slice ea x.ex.length ec], bv, .int .i64 (r : Int)] w fun e w' => e = .returned (.bool (ruleS M x r)) ∧ Below w.heap.size w w' := by
  obtain ⟨bg, bo, bc, eb, hbg, _⟩ := hB.read
  subst eb
  have HIX0 : Hid (IX w x aa ac ea ec (w.alloc (.cells #[.int .i64 x.op, .int .i64 x.code, .int .i64 x.dst, .slice aa x.args.length ac, .int .i64 x.n, .int .i64 x.pc, .int .i64 x.need, .slice ea x.ex.length ec] 51))) := ⟨box1n w _, heap_alloc_new w _⟩
  have HAS : Hid (∀ X, Below w.heap.size w X → Calls Tryd.prog 60 #[.agg #[.int .i64 x.op, .int .i64 x.code, .int .i64 x.dst, .slice aa x.args.length ac, .int .i64 x.n, .int .i64 x.pc, .int .i64 x.need, .slice ea x.ex.length ec], .int .i64 (r : Int)] X fun e w' => e = .returned (.bool (askE x r)) ∧ Below X.heap.size X w') := fun X hX => asks_any (InP.mv D D (fun _ => False) w X x _ h (Fr.of_below hX) (fun k hk d => ⟨fun e => e, d⟩)) r hA hE hS
  have HQ : Hid (∀ X, Calls Tryd.prog 61 #[.agg #[.int .i64 x.op, .int .i64 x.code, .int .i64 x.dst, .slice aa x.args.length ac, .int .i64 x.n, .int .i64 x.pc, .int .i64 x.need, .slice ea x.ex.length ec]] X fun e w' => e = .returned (.bool (quiet x)) ∧ Below X.heap.size X w') := fun X => quiet_any rfl
  have HIN : Hid (∀ X d, Below w.heap.size w X → Calls Tryd.prog 62 #[.slice (some ⟨bg, bo, none⟩) 512 bc, .int .i64 d] X fun e w' => e = .returned (.bool (inS M d)) ∧ ∃ m, w' = X.drewN m) := fun X d hX => in_any (Ro.fr hB (Fr.of_below (S := fun _ => False) hX) (fun _ _ e => e)) hs d
  clear h hB hs hA hE hS
  obtain ⟨AL, hAL⟩ : ∃ z, Hid (x.args.length = z) := ⟨_, hide rfl⟩
  obtain ⟨EL, hEL⟩ : ∃ z, Hid (x.ex.length = z) := ⟨_, hide rfl⟩
  obtain ⟨W, hW⟩ : ∃ W, Hid (w.alloc (.cells #[.int .i64 x.op, .int .i64 x.code, .int .i64 x.dst, .slice aa x.args.length ac, .int .i64 x.n, .int .i64 x.pc, .int .i64 x.need, .slice ea x.ex.length ec] 51) = W) := ⟨_, hide rfl⟩
  rw [unhide hW] at HIX0
  have hW' := unhide hW
  obtain ⟨wl, w0, w1, w2, w3, w4, w5, w6, w7⟩ := (unhide HIX0).c
  -- the second half, from wherever the first leaves
  have HRU : Hid (ruleS M x r = ((askE x r && (!quiet x || inS M x.dst)) || (M r && decide (x.dst ≠ (r : Int))))) := rfl
  have HIr := hide (inS_nat M r)
  cases hAk : askE x r with
  | true =>
    rw [hAk] at HAS HRU
    cases hQu : quiet x with
    | true =>
      rw [hQu] at HQ HRU
      cases hIn : inS M x.dst with
      | true =>
        have HV : Hid (ruleS M x r = true) := by unfold Hid; rw [unhide HRU, hIn]; rfl
        have HI1 := hide (fun X hX => unhide HIN X x.dst hX)
        rw [hIn] at HI1
        clear hAk hQu hIn HRU HIN HIr
        go_enter Tryd.func39, Tryd.ntmps39
        go_wp2_with fail
        refine (unhide HAS _ (unhide HIX0).1).mono ?_
        rintro e Y ⟨rfl, hY⟩
        have HIX1 := hide ((unhide HIX0).on hY)
        obtain ⟨yl, y0, y1, y2, y3, y4, y5, y6, y7⟩ := (unhide HIX1).c
        clear hY
        go_wp2_with fail
        refine (unhide HQ _).mono ?_
        rintro e Y2 ⟨rfl, hY⟩
        have HIX2 := hide ((unhide HIX1).on hY)
        obtain ⟨zl, z0, z1, z2, z3, z4, z5, z6, z7⟩ := (unhide HIX2).c
        clear hY
        go_wp2_with fail
        refine (unhide HI1 _ (unhide HIX2).1).mono ?_
        rintro e Y3 ⟨rfl, m, hm⟩
        have hY : Below Y2.heap.size Y2 Y3 := by rw [hm]; exact bl_drewN Y2 m
        clear hm
        have HIX3 := hide ((unhide HIX2).on hY)
        obtain ⟨ql, q0, q1, q2, q3, q4, q5, q6, q7⟩ := (unhide HIX3).c
        clear hY
        go_wp2_with fail
        go_ret
        exact ⟨by rw [unhide HV]; rfl, (unhide HIX3).1⟩

      | false =>
        have HI1 := hide (fun X hX => unhide HIN X x.dst hX)
        rw [hIn] at HI1
        cases hMr : M r with
        | false =>
          have HV : Hid (ruleS M x r = false) := by unfold Hid; rw [unhide HRU]; simp [hMr, hIn]
          have HI2 := hide (fun X hX => unhide HIN X (r : Int) hX)
          rw [unhide HIr, hMr] at HI2
          clear hAk hQu hIn HRU HIN HIr hMr
          go_enter Tryd.func39, Tryd.ntmps39
          go_wp2_with fail
          refine (unhide HAS _ (unhide HIX0).1).mono ?_
          rintro e Y ⟨rfl, hY⟩
          have HIX1 := hide ((unhide HIX0).on hY)
          obtain ⟨yl, y0, y1, y2, y3, y4, y5, y6, y7⟩ := (unhide HIX1).c
          clear hY
          go_wp2_with fail
          refine (unhide HQ _).mono ?_
          rintro e Y2 ⟨rfl, hY⟩
          have HIX2 := hide ((unhide HIX1).on hY)
          obtain ⟨zl, z0, z1, z2, z3, z4, z5, z6, z7⟩ := (unhide HIX2).c
          clear hY
          go_wp2_with fail
          refine (unhide HI1 _ (unhide HIX2).1).mono ?_
          rintro e Y3 ⟨rfl, m, hm⟩
          have hY : Below Y2.heap.size Y2 Y3 := by rw [hm]; exact bl_drewN Y2 m
          clear hm
          have HIX3 := hide ((unhide HIX2).on hY)
          obtain ⟨ql, q0, q1, q2, q3, q4, q5, q6, q7⟩ := (unhide HIX3).c
          clear hY
          go_wp2_with fail
          refine (unhide HI2 _ (unhide HIX3).1).mono ?_
          rintro e Y4 ⟨rfl, m, hm⟩
          have hY : Below Y3.heap.size Y3 Y4 := by rw [hm]; exact bl_drewN Y3 m
          clear hm
          have HIX4 := hide ((unhide HIX3).on hY)
          obtain ⟨pl, p0, p1, p2, p3, p4, p5, p6, p7⟩ := (unhide HIX4).c
          clear hY
          go_wp2_with fail
          go_ret
          exact ⟨by rw [unhide HV]; rfl, (unhide HIX4).1⟩

        | true =>
          have HI2 := hide (fun X hX => unhide HIN X (r : Int) hX)
          rw [unhide HIr, hMr] at HI2
          by_cases hd : x.dst = (r : Int)
          · have HV : Hid (ruleS M x r = false) := by unfold Hid; rw [unhide HRU]; first | (simp [hMr, hd, hIn]; done) | (exfalso; rw [hd, unhide HIr, hMr] at hIn; cases hIn)
            have d1 : (x.dst != (r : Int)) = false := by simp [hd]
            have d2 : decide (x.dst = (r : Int)) = true := by simp [hd]
            have d3 : (x.dst == (r : Int)) = true := by simp [hd]
            clear hAk hQu hIn HRU HIN HIr hMr hd
            go_enter Tryd.func39, Tryd.ntmps39
            go_wp2_with fail
            refine (unhide HAS _ (unhide HIX0).1).mono ?_
            rintro e Y ⟨rfl, hY⟩
            have HIX1 := hide ((unhide HIX0).on hY)
            obtain ⟨yl, y0, y1, y2, y3, y4, y5, y6, y7⟩ := (unhide HIX1).c
            clear hY
            go_wp2_with fail
            refine (unhide HQ _).mono ?_
            rintro e Y2 ⟨rfl, hY⟩
            have HIX2 := hide ((unhide HIX1).on hY)
            obtain ⟨zl, z0, z1, z2, z3, z4, z5, z6, z7⟩ := (unhide HIX2).c
            clear hY
            go_wp2_with fail
            refine (unhide HI1 _ (unhide HIX2).1).mono ?_
            rintro e Y3 ⟨rfl, m, hm⟩
            have hY : Below Y2.heap.size Y2 Y3 := by rw [hm]; exact bl_drewN Y2 m
            clear hm
            have HIX3 := hide ((unhide HIX2).on hY)
            obtain ⟨ql, q0, q1, q2, q3, q4, q5, q6, q7⟩ := (unhide HIX3).c
            clear hY
            go_wp2_with fail
            refine (unhide HI2 _ (unhide HIX3).1).mono ?_
            rintro e Y4 ⟨rfl, m, hm⟩
            have hY : Below Y3.heap.size Y3 Y4 := by rw [hm]; exact bl_drewN Y3 m
            clear hm
            have HIX4 := hide ((unhide HIX3).on hY)
            obtain ⟨pl, p0, p1, p2, p3, p4, p5, p6, p7⟩ := (unhide HIX4).c
            clear hY
            go_wp2_with fail
            go_ret
            exact ⟨by rw [unhide HV]; rfl, (unhide HIX4).1⟩

          · have HV : Hid (ruleS M x r = true) := by unfold Hid; rw [unhide HRU]; simp [hMr, hd, hIn]
            have d1 : (x.dst != (r : Int)) = true := by simp [hd]
            have d2 : decide (x.dst = (r : Int)) = false := by simp [hd]
            have d3 : (x.dst == (r : Int)) = false := by simp [hd]
            clear hAk hQu hIn HRU HIN HIr hMr hd
            go_enter Tryd.func39, Tryd.ntmps39
            go_wp2_with fail
            refine (unhide HAS _ (unhide HIX0).1).mono ?_
            rintro e Y ⟨rfl, hY⟩
            have HIX1 := hide ((unhide HIX0).on hY)
            obtain ⟨yl, y0, y1, y2, y3, y4, y5, y6, y7⟩ := (unhide HIX1).c
            clear hY
            go_wp2_with fail
            refine (unhide HQ _).mono ?_
            rintro e Y2 ⟨rfl, hY⟩
            have HIX2 := hide ((unhide HIX1).on hY)
            obtain ⟨zl, z0, z1, z2, z3, z4, z5, z6, z7⟩ := (unhide HIX2).c
            clear hY
            go_wp2_with fail
            refine (unhide HI1 _ (unhide HIX2).1).mono ?_
            rintro e Y3 ⟨rfl, m, hm⟩
            have hY : Below Y2.heap.size Y2 Y3 := by rw [hm]; exact bl_drewN Y2 m
            clear hm
            have HIX3 := hide ((unhide HIX2).on hY)
            obtain ⟨ql, q0, q1, q2, q3, q4, q5, q6, q7⟩ := (unhide HIX3).c
            clear hY
            go_wp2_with fail
            refine (unhide HI2 _ (unhide HIX3).1).mono ?_
            rintro e Y4 ⟨rfl, m, hm⟩
            have hY : Below Y3.heap.size Y3 Y4 := by rw [hm]; exact bl_drewN Y3 m
            clear hm
            have HIX4 := hide ((unhide HIX3).on hY)
            obtain ⟨pl, p0, p1, p2, p3, p4, p5, p6, p7⟩ := (unhide HIX4).c
            clear hY
            go_wp2_with fail
            go_ret
            exact ⟨by rw [unhide HV]; rfl, (unhide HIX4).1⟩

    | false =>
      rw [hQu] at HQ HRU
      have HV : Hid (ruleS M x r = true) := by unfold Hid; rw [unhide HRU]; rfl
      clear hAk hQu HRU HIN HIr
      go_enter Tryd.func39, Tryd.ntmps39
      go_wp2_with fail
      refine (unhide HAS _ (unhide HIX0).1).mono ?_
      rintro e Y ⟨rfl, hY⟩
      have HIX1 := hide ((unhide HIX0).on hY)
      obtain ⟨yl, y0, y1, y2, y3, y4, y5, y6, y7⟩ := (unhide HIX1).c
      clear hY
      go_wp2_with fail
      refine (unhide HQ _).mono ?_
      rintro e Y2 ⟨rfl, hY⟩
      have HIX2 := hide ((unhide HIX1).on hY)
      obtain ⟨zl, z0, z1, z2, z3, z4, z5, z6, z7⟩ := (unhide HIX2).c
      clear hY
      go_wp2_with fail
      go_ret
      exact ⟨by rw [unhide HV]; rfl, (unhide HIX2).1⟩

  | false =>
    rw [hAk] at HAS HRU
    cases hMr : M r with
    | false =>
      have HV : Hid (ruleS M x r = false) := by unfold Hid; rw [unhide HRU]; simp [hMr]
      have HI2 := hide (fun X hX => unhide HIN X (r : Int) hX)
      rw [unhide HIr, hMr] at HI2
      clear hAk HRU HIN HIr hMr
      go_enter Tryd.func39, Tryd.ntmps39
      go_wp2_with fail
      refine (unhide HAS _ (unhide HIX0).1).mono ?_
      rintro e Y ⟨rfl, hY⟩
      have HIX1 := hide ((unhide HIX0).on hY)
      obtain ⟨yl, y0, y1, y2, y3, y4, y5, y6, y7⟩ := (unhide HIX1).c
      clear hY
      go_wp2_with fail
      refine (unhide HI2 _ (unhide HIX1).1).mono ?_
      rintro e Y4 ⟨rfl, m, hm⟩
      have hY : Below Y.heap.size Y Y4 := by rw [hm]; exact bl_drewN Y m
      clear hm
      have HIX4 := hide ((unhide HIX1).on hY)
      obtain ⟨pl, p0, p1, p2, p3, p4, p5, p6, p7⟩ := (unhide HIX4).c
      clear hY
      go_wp2_with fail
      go_ret
      exact ⟨by rw [unhide HV]; rfl, (unhide HIX4).1⟩

    | true =>
      have HI2 := hide (fun X hX => unhide HIN X (r : Int) hX)
      rw [unhide HIr, hMr] at HI2
      by_cases hd : x.dst = (r : Int)
      · have HV : Hid (ruleS M x r = false) := by unfold Hid; rw [unhide HRU]; first | (simp [hMr, hd]; done) | (exfalso; rw [hd, unhide HIr, hMr] at hIn; cases hIn)
        have d1 : (x.dst != (r : Int)) = false := by simp [hd]
        have d2 : decide (x.dst = (r : Int)) = true := by simp [hd]
        have d3 : (x.dst == (r : Int)) = true := by simp [hd]
        clear hAk HRU HIN HIr hMr hd
        go_enter Tryd.func39, Tryd.ntmps39
        go_wp2_with fail
        refine (unhide HAS _ (unhide HIX0).1).mono ?_
        rintro e Y ⟨rfl, hY⟩
        have HIX1 := hide ((unhide HIX0).on hY)
        obtain ⟨yl, y0, y1, y2, y3, y4, y5, y6, y7⟩ := (unhide HIX1).c
        clear hY
        go_wp2_with fail
        refine (unhide HI2 _ (unhide HIX1).1).mono ?_
        rintro e Y4 ⟨rfl, m, hm⟩
        have hY : Below Y.heap.size Y Y4 := by rw [hm]; exact bl_drewN Y m
        clear hm
        have HIX4 := hide ((unhide HIX1).on hY)
        obtain ⟨pl, p0, p1, p2, p3, p4, p5, p6, p7⟩ := (unhide HIX4).c
        clear hY
        go_wp2_with fail
        go_ret
        exact ⟨by rw [unhide HV]; rfl, (unhide HIX4).1⟩

      · have HV : Hid (ruleS M x r = true) := by unfold Hid; rw [unhide HRU]; simp [hMr, hd]
        have d1 : (x.dst != (r : Int)) = true := by simp [hd]
        have d2 : decide (x.dst = (r : Int)) = false := by simp [hd]
        have d3 : (x.dst == (r : Int)) = false := by simp [hd]
        clear hAk HRU HIN HIr hMr hd
        go_enter Tryd.func39, Tryd.ntmps39
        go_wp2_with fail
        refine (unhide HAS _ (unhide HIX0).1).mono ?_
        rintro e Y ⟨rfl, hY⟩
        have HIX1 := hide ((unhide HIX0).on hY)
        obtain ⟨yl, y0, y1, y2, y3, y4, y5, y6, y7⟩ := (unhide HIX1).c
        clear hY
        go_wp2_with fail
        refine (unhide HI2 _ (unhide HIX1).1).mono ?_
        rintro e Y4 ⟨rfl, m, hm⟩
        have hY : Below Y.heap.size Y Y4 := by rw [hm]; exact bl_drewN Y m
        clear hm
        have HIX4 := hide ((unhide HIX1).on hY)
        obtain ⟨pl, p0, p1, p2, p3, p4, p5, p6, p7⟩ := (unhide HIX4).c
        clear hY
        go_wp2_with fail
        go_ret
        exact ⟨by rw [unhide HV]; rfl, (unhide HIX4).1⟩


set_option linter.unusedVariables false
set_option linter.unusedSimpArgs false
def tab (uss : List (List Rset)) (b i : Nat) : Rset := ((uss[b]?).bind (fun us => us[i]?)).getD F0
theorem tab_at {uss : List (List Rset)} {b i : Nat} {us : List Rset} {M : Rset} (hb : uss[b]? = some us) (hi : us[i]? = some M) : tab uss b i = M := by unfold tab; rw [hb]; simp [hi]
def nxB (uss : List (List Rset)) (nx : List Int) (r : Nat) : Bool := nx.any (fun x => decide (0 ≤ x) && tab uss x.toNat 0 r)
theorem nxB_hit {uss : List (List Rset)} {nx : List Int} {r i t : Nat} (h : nx[i]? = some (t : Int)) (ht : tab uss t 0 r = true) : nxB uss nx r = true :=
  List.any_eq_true.2 ⟨(t : Int), List.mem_of_getElem? h, by simp [ht]⟩
theorem nxB_take {uss : List (List Rset)} {nx : List Int} {r i : Nat} {x : Int} (h : nx[i]? = some x) (hi : nxB uss (nx.take i) r = false) (hx : (decide (0 ≤ x) && tab uss x.toNat 0 r) = false) : nxB uss (nx.take (i + 1)) r = false := by
  rw [take_push h]
  unfold nxB at hi ⊢
  rw [List.any_append, hi]
  simp only [List.any_cons, List.any_nil, Bool.or_false, Bool.false_or]
  exact hx
set_option maxRecDepth 100000 in
set_option maxHeartbeats 6400000 in
theorem next_any {w : World} {D : Nat → Prop} {Z : Nat → Prop} {fn regs : Int} {bl : List Bk} {v tv : Value} {uss : List (List Rset)} {ts : List T2} {b : Nat} {u : Bk} (h : BksV D w bl v) (hT : TM Z w tv uss ts) (hl : uss.length = bl.length) (h0 : ∀ us ∈ uss, 0 < us.length) (hN : bl.length ≤ 1048576) (hu : bl[b]? = some u) (hx : u.nx.length ≤ 1048576) (r : Nat) (hr : r < 512) :
    Calls Tryd.prog 38 #[.agg #[.int .i64 fn, .int .i64 regs, v], tv, .int .i64 (b : Int), .int .i64 (r : Int)] w fun e w' => e = .returned (.bool (nxB uss u.nx r)) ∧ Below w.heap.size w w' := by
  obtain ⟨va, vc, rfl, hv1, hv2⟩ := NV.shape h
  obtain ⟨ta, tc, rfl, ht1, ht2⟩ := hT.row.shape
  obtain ⟨N, hNN⟩ : ∃ z, Hid (bl.length = z) := ⟨_, hide rfl⟩
  have hbN : b < N := by rw [← unhide hNN]; exact (List.getElem?_eq_some_iff.1 hu).1
  rw [hl] at ht1 hT ⊢
  rw [unhide hNN] at hN hv1 h hT hl ht1 ⊢
  unfold maxLen at hv2 ht2
  obtain ⟨vb, vo, ia, ic, na, nc, ea, hvb, _, hNx, _, hnc, _, hnl, hcc⟩ := h.blk hu
  subst ea
  unfold maxLen at hnc
  obtain ⟨W, hW⟩ : ∃ W, Hid (w.alloc (.cells #[.int .i64 fn, .int .i64 regs, .slice (some ⟨vb, vo, none⟩) N vc] 24) = W) := ⟨_, hide rfl⟩
  have HW : Hid (Below w.heap.size w W) := by rw [← unhide hW]; exact box1n w _
  have hn := heap_alloc_new w (.cells #[.int .i64 fn, .int .i64 regs, .slice (some ⟨vb, vo, none⟩) N vc] 24)
  rw [unhide hW] at hn
  have c2 := (blk_cells hn).1 2
  have cl := (blk_cells hn).2.2
  simp at c2
  obtain ⟨t0, _, _, t2⟩ := hcc W (unhide HW)
  have HT := hide (TM.on hT (unhide HW))
  have HX := hide hNx
  have HL := hide hl
  have H0 := hide h0
  have hW' := unhide hW
  obtain ⟨NL, hNL⟩ : ∃ z, Hid (u.nx.length = z) := ⟨_, hide rfl⟩
  rw [unhide hNL] at t2 hx hnl
  have b0 : (0 : Int) ≤ (b : Int) := by omega
  have b1 : (b : Int) < (N : Int) := by omega
  clear h hT hl h0 hn hcc hNx
  go_enter Tryd.func38, Tryd.ntmps38
  go_wp2_with fail
  clear c2 cl t0 t2 hW' hW
  go_loopg [10] NL (fun gg t10 wr => ∃ i : Nat, Hid (i + gg = NL) ∧ t10 = .int .i64 (i : Int) ∧ Hid (wr = W ∧ nxB uss (u.nx.take i) r = false))
  case atStart => exact ⟨0, by unfold Hid; omega, rfl, rfl, by simp [nxB]⟩
  case round =>
    obtain ⟨i, hi, rfl, hG⟩ := hrel
    obtain ⟨hwr, hF⟩ := unhide hG
    subst hwr
    have HF := hide hF
    clear hG hF
    by_cases hlt : i < NL
    · have i0 : (0 : Int) ≤ (i : Int) := by omega
      have i1 : (i : Int) < (NL : Int) := by omega
      obtain ⟨x, hx2⟩ : ∃ x, u.nx[i]? = some x := ⟨_, List.getElem?_eq_getElem (by rw [unhide hNL]; exact hlt)⟩
      obtain ⟨xb, xo, xcp, e, _, _, hxb, hxc⟩ := (unhide HX).1.elem zI hx2
      rw [unhide hNL] at e
      cases e
      have q0 : wr.cell? ⟨xb, xo + i, none⟩ = some (.int .i64 x) := by
        have := hxc 0 _ rfl
        rw [Nat.mul_one, Nat.add_zero] at this
        exact ((unhide HW).cell (p := ⟨xb, xo + i, none⟩) hxb).trans this
      have ql : xb < wr.heap.size := Nat.lt_of_lt_of_le hxb (unhide HW).size
      have HX2 := hide hx2
      clear hxc hx2
      by_cases x0 : 0 ≤ x
      · obtain ⟨t, rfl⟩ : ∃ t : Nat, x = (t : Int) := ⟨x.toNat, by omega⟩
        by_cases x1 : (t : Int) < (N : Int)
        · have htN : t < uss.length := by rw [unhide HL]; omega
          obtain ⟨us, hus⟩ : ∃ us, uss[t]? = some us := ⟨_, List.getElem?_eq_getElem htN⟩
          have h00 := unhide H0 us (List.mem_of_getElem? hus)
          obtain ⟨M, hM⟩ : ∃ M, us[0]? = some M := ⟨_, List.getElem?_eq_getElem h00⟩
          obtain ⟨ta2, tof, tc2, ra, ro, rc, g, go, gc, e1, k1, k2, k3, k4, k5, k6, _, _⟩ := (unhide HT).read hus hM
          rw [unhide HL] at e1
          cases e1
          obtain ⟨g2, go2, gc2, e2, _, k7⟩ := k6.read
          cases e2
          obtain ⟨k8, _⟩ := k7 r hr
          have HTB : Hid (tab uss t 0 = M) := tab_at hus hM
          rw [Nat.add_zero] at k4
          obtain ⟨UL, hUL⟩ : ∃ z, Hid (us.length = z) := ⟨_, hide rfl⟩
          rw [unhide hUL] at k2 h00
          have u0 : (0 : Int) < (UL : Int) := by omega
          have r0 : (0 : Int) ≤ (r : Int) := by omega
          have r1 : (r : Int) < 512 := by omega
          clear k6 k7 hus hM
          cases hMr : M r with
          | true =>
            rw [hMr] at k8
            have HV : Hid (nxB uss u.nx r = true) := nxB_hit (unhide HX2) (by rw [unhide HTB]; exact hMr)
            clear hMr
            go_wp2_with fail
            first | go_ret | go_end0
            exact ⟨by rw [unhide HV]; rfl, unhide HW⟩
          | false =>
            rw [hMr] at k8
            have HF2 : Hid (nxB uss (u.nx.take (i + 1)) r = false) := nxB_take (unhide HX2) (unhide HF) (by simp only [Int.toNat_natCast]; rw [unhide HTB, hMr]; simp)
            clear hMr
            go_wp2_with fail
            go_roundg (gk - 1)
            case measure => have := unhide hi; omega
            case rel => exact ⟨i + 1, by have := unhide hi; unfold Hid; omega, by go_num, hide ⟨rfl, unhide HF2⟩⟩
        · have HF2 : Hid (nxB uss (u.nx.take (i + 1)) r = false) := nxB_take (unhide HX2) (unhide HF) (by
            simp only [Int.toNat_natCast]
            have : uss[t]? = none := List.getElem?_eq_none (by rw [unhide HL]; omega)
            simp [tab, this, F0])
          go_wp2_with fail
          go_roundg (gk - 1)
          case measure => have := unhide hi; omega
          case rel => exact ⟨i + 1, by have := unhide hi; unfold Hid; omega, by go_num, hide ⟨rfl, unhide HF2⟩⟩
      · have HF2 : Hid (nxB uss (u.nx.take (i + 1)) r = false) := nxB_take (unhide HX2) (unhide HF) (by simp [x0])
        go_wp2_with fail
        go_roundg (gk - 1)
        case measure => have := unhide hi; omega
        case rel => exact ⟨i + 1, by have := unhide hi; unfold Hid; omega, by go_num, hide ⟨rfl, unhide HF2⟩⟩
    · have hiL : NL = i := by have := unhide hi; omega
      have HV : Hid (nxB uss u.nx r = false) := by have := unhide HF; rw [List.take_of_length_le (by rw [unhide hNL]; omega)] at this; exact this
      have i1 : ¬ (i : Int) < (NL : Int) := by omega
      clear hiL HF
      go_wp2_with fail
      first | go_ret | go_end0
      exact ⟨by rw [unhide HV]; rfl, unhide HW⟩

set_option linter.unusedVariables false
set_option linter.unusedSimpArgs false
structure Shp (bl : List Bk) (uss : List (List Rset)) : Prop where
  len : uss.length = bl.length
  row : ∀ (b : Nat) (us : List Rset) (u : Bk), uss[b]? = some us → bl[b]? = some u → us.length = u.ins.length + 1
theorem Shp.start (bl : List Bk) : Shp bl (bl.map rowsOf) := by
  refine ⟨by simp, fun b us u h1 h2 => ?_⟩
  rw [List.getElem?_map, h2] at h1
  cases h1
  simp [rowsOf]
theorem Shp.at {bl : List Bk} {uss : List (List Rset)} (h : Shp bl uss) {b i : Nat} {u : Bk} (hu : bl[b]? = some u) (hi : i ≤ u.ins.length) : ∃ us M, uss[b]? = some us ∧ us[i]? = some M ∧ tab uss b i = M ∧ us.length = u.ins.length + 1 := by
  have hb := (List.getElem?_eq_some_iff.1 hu).1
  obtain ⟨us, hus⟩ : ∃ us, uss[b]? = some us := ⟨_, List.getElem?_eq_getElem (by rw [h.len]; exact hb)⟩
  have hl := h.row b us u hus hu
  obtain ⟨M, hM⟩ : ∃ M, us[i]? = some M := ⟨_, List.getElem?_eq_getElem (by omega)⟩
  exact ⟨us, M, hus, hM, tab_at hus hM, hl⟩
section
variable {bl : List Bk} {uss : List (List Rset)} {b i r : Nat} {us : List Rset} {M : Rset}
theorem tab_put (hb : uss[b]? = some us) (hi : us[i]? = some M) (b' i' : Nat) : tab (uss.set b (us.set i (pbit M r true))) b' i' = if b' = b ∧ i' = i then pbit M r true else tab uss b' i' := by
  have hbl := (List.getElem?_eq_some_iff.1 hb).1
  have hil := (List.getElem?_eq_some_iff.1 hi).1
  unfold tab
  by_cases e : b' = b
  · subst e
    rw [List.getElem?_set_self hbl, hb]
    by_cases e2 : i' = i
    · subst e2; rw [if_pos ⟨rfl, rfl⟩]; simp [hil]
    · rw [if_neg (fun q => e2 q.2)]
      simp only [Option.bind_some]
      rw [List.getElem?_set_ne (fun q => e2 q.symm)]
  · rw [if_neg (fun q => e q.1), List.getElem?_set_ne (fun q => e q.symm)]
theorem Shp.put (h : Shp bl uss) (hb : uss[b]? = some us) (hi : us[i]? = some M) : Shp bl (uss.set b (us.set i (pbit M r true))) := by
  have hbl := (List.getElem?_eq_some_iff.1 hb).1
  refine ⟨by simp [h.len], fun b' us' u h1 h2 => ?_⟩
  by_cases e : b' = b
  · subst e
    rw [List.getElem?_set_self hbl] at h1
    cases h1
    rw [List.length_set]
    exact h.row b' us u hb h2
  · rw [List.getElem?_set_ne (fun q => e q.symm)] at h1
    exact h.row b' us' u h1 h2
theorem TSnd.put (h : TSnd bl (isReg bl) (tab uss)) (hb : uss[b]? = some us) (hi : us[i]? = some M) {u : Bk} (hu : bl[b]? = some u) (hr : isReg bl r) (hq : backL (wS bl b) (u.ins.drop i) r = true) : TSnd bl (isReg bl) (tab (uss.set b (us.set i (pbit M r true)))) := by
  have hM := tab_at hb hi
  refine ⟨fun b' u' hu' i' hi' s hs => ?_, fun b' i' s hs => ?_⟩
  · rw [tab_put hb hi] at hs
    by_cases e : b' = b ∧ i' = i
    · obtain ⟨rfl, rfl⟩ := e
      rw [if_pos ⟨rfl, rfl⟩] at hs
      rw [hu] at hu'; cases hu'
      unfold pbit at hs
      by_cases e2 : s = r
      · rw [e2]; exact hq
      · rw [if_neg e2, ← hM] at hs
        exact h.snd b' u hu i' hi' s hs
    · rw [if_neg e] at hs
      exact h.snd b' u' hu' i' hi' s hs
  · rw [tab_put hb hi] at hs
    by_cases e : b' = b ∧ i' = i
    · rw [if_pos e] at hs
      unfold pbit at hs
      by_cases e2 : s = r
      · rw [e2]; exact hr
      · rw [if_neg e2, ← hM] at hs
        exact h.reg b i s hs
    · rw [if_neg e] at hs
      exact h.reg b' i' s hs
end
/-- How many are not wanted yet. -/
def cnt (uss : List (List Rset)) : Nat := (uss.map (fun us => (us.map dfc).sum)).sum
theorem sum_set_lt {α : Type} (f : α → Nat) : ∀ {l : List α} {i : Nat} {x y : α}, l[i]? = some x → f y < f x → ((l.set i y).map f).sum < (l.map f).sum
  | [], i, x, y, h, _ => by simp at h
  | a :: l, 0, x, y, h, hlt => by simp at h; subst h; simp [hlt]
  | a :: l, i + 1, x, y, h, hlt => by
    simp only [List.getElem?_cons_succ] at h
    have := sum_set_lt f h hlt
    simp only [List.set_cons_succ, List.map_cons, List.sum_cons]
    omega
theorem cnt_put {uss : List (List Rset)} {b i r : Nat} {us : List Rset} {M : Rset} (hb : uss[b]? = some us) (hi : us[i]? = some M) (hs : Sup M) (hr : r < 512) (hM : M r = false) : cnt (uss.set b (us.set i (pbit M r true))) < cnt uss := by
  unfold cnt
  refine sum_set_lt (fun us => (us.map dfc).sum) hb (sum_set_lt dfc hi (dfc_lt (fun s q => ?_) (fun s hs2 => ?_) (fun e => ?_)))
  · unfold pbit; split
    · rfl
    · exact q
  · unfold pbit; rw [if_neg (by omega)]; exact hs s hs2
  · have := congrFun e r
    unfold pbit at this
    rw [if_pos rfl, hM] at this
    cases this
theorem sum_le' {α : Type} (f : α → Nat) {c : Nat} (h : ∀ x, f x ≤ c) : ∀ l : List α, (l.map f).sum ≤ l.length * c
  | [] => by simp
  | a :: l => by
    have := sum_le' f h l
    have ha := h a
    simp only [List.map_cons, List.sum_cons, List.length_cons]
    rw [Nat.succ_mul]; omega
theorem snd_sup {bl : List Bk} {T : Nat → Nat → Rset} (h : TSnd bl (isReg bl) T) (b i : Nat) : Sup (T b i) := fun r hr => by
  cases e : T b i r with
  | false => rfl
  | true => have := (h.reg b i r e).1; omega
theorem snd_start (bl : List Bk) : TSnd bl (isReg bl) (tab (bl.map rowsOf)) := by
  have h0 : ∀ b i r, tab (bl.map rowsOf) b i r = false := fun b i r => by
    unfold tab
    rw [List.getElem?_map]
    cases bl[b]? with
    | none => rfl
    | some u =>
      simp only [Option.map_some, Option.bind_some, rowsOf]
      rw [List.getElem?_replicate]
      split <;> rfl
  exact ⟨fun b u _ i _ r hr => absurd hr (by rw [h0]; decide), fun b i r hr => absurd hr (by rw [h0]; decide)⟩
/-- One block and one register: nothing more follows. -/
def FixR (uss : List (List Rset)) (u : Bk) (b r : Nat) : Prop :=
  (nxB uss u.nx r = true → tab uss b u.ins.length r = true) ∧ ∀ (i : Nat) (x : RIn), u.ins[i]? = some x → ruleS (tab uss b (i + 1)) x r = true → tab uss b i r = true
theorem fix_of {bl : List Bk} {uss : List (List Rset)} (h : ∀ (b : Nat) (u : Bk), bl[b]? = some u → ∀ r, isReg bl r → FixR uss u b r) : TFix bl (isReg bl) (tab uss) := fun b u hu r hr =>
  ⟨fun n t hn ht q => (h b u hu r hr).1 (List.any_eq_true.2 ⟨(n : Int), hn, by simp [q]⟩), (h b u hu r hr).2⟩
/-- What comes next is sound. -/
theorem snd_next {bl : List Bk} {uss : List (List Rset)} (h : TSnd bl (isReg bl) (tab uss)) (hl : uss.length = bl.length) {b r : Nat} {u : Bk} (hu : bl[b]? = some u) (hn : nxB uss u.nx r = true) : backL (wS bl b) (u.ins.drop u.ins.length) r = true := by
  rw [List.drop_length]
  obtain ⟨x, hx, hq⟩ := List.any_eq_true.1 hn
  rw [Bool.and_eq_true, decide_eq_true_eq] at hq
  obtain ⟨n, rfl⟩ : ∃ n : Nat, x = (n : Int) := ⟨x.toNat, by omega⟩
  simp only [Int.toNat_natCast] at hq
  have hnl : n < bl.length := by
    by_cases q : n < bl.length
    · exact q
    · have : uss[n]? = none := List.getElem?_eq_none (by rw [hl]; omega)
      simp [tab, this, F0] at hq
  obtain ⟨t, ht⟩ : ∃ t, bl[n]? = some t := ⟨_, List.getElem?_eq_getElem hnl⟩
  have q1 := h.snd n t ht 0 (Nat.zero_le _) r hq.2
  rw [List.drop_zero] at q1
  exact wS_closed bl b n u t hu ht hx r q1
theorem snd_rule {bl : List Bk} {uss : List (List Rset)} (h : TSnd bl (isReg bl) (tab uss)) {b i r : Nat} {u : Bk} {x : RIn} (hu : bl[b]? = some u) (hx : u.ins[i]? = some x) (hr : r < 512) (hn : ruleS (tab uss b (i + 1)) x r = true) : backL (wS bl b) (u.ins.drop i) r = true := by
  rw [rule_back _ _ hr] at hn
  rw [backL_drop _ _ hx]
  have hi := (List.getElem?_eq_some_iff.1 hx).1
  exact backS_mono (h.snd b u hu (i + 1) (by omega)) x r hn
/-- While all is gone through once: found so far. -/
structure FI (bl : List Bk) (uss0 : List (List Rset)) (ag : Bool) (uss : List (List Rset)) : Prop where
  shp : Shp bl uss
  snd : TSnd bl (isReg bl) (tab uss)
  yes : ag = true → cnt uss < cnt uss0
  no : ag = false → uss = uss0
theorem FI.put {bl : List Bk} {uss0 uss : List (List Rset)} {ag : Bool} {b i r : Nat} {us : List Rset} {M : Rset} {u : Bk} (h : FI bl uss0 ag uss) (hb : uss[b]? = some us) (hi : us[i]? = some M) (hu : bl[b]? = some u) (hr : isReg bl r) (hM : M r = false) (hq : backL (wS bl b) (u.ins.drop i) r = true) : FI bl uss0 true (uss.set b (us.set i (pbit M r true))) := by
  have hs : Sup M := by have := snd_sup h.snd b i; rwa [tab_at hb hi] at this
  have hc := cnt_put hb hi hs hr.1 hM
  refine ⟨h.shp.put hb hi, h.snd.put hb hi hu hr hq, fun _ => ?_, fun e => by cases e⟩
  cases ag with
  | true => have := h.yes rfl; omega
  | false => rw [h.no rfl] at hc ⊢; exact hc
theorem TM.mono2 {Z Z' : Nat → Prop} {X : World} {v : Value} {uss : List (List Rset)} {ts : List T2} (h : TM Z X v uss ts) (hz : ∀ k, k < X.heap.size → Z k → Z' k) : TM Z' X v uss ts := by
  have h2 : OW en2 1 (P2 Z') bl2 Z X v uss ts := OW.imp h (fun u x hp => OW.mono hp hz)
  exact OW.mono h2 hz
end Go.Proofs.YtpbdmbmafjkinaaDoor
