/-
  The document's Met: the table of all that is met.
-/
import Derived.Test.YtbkfnmkfbdoadaaGreatDoorTMeet
namespace Go.Proofs.YtbkfnmkfbdoadaaGreatDoor
open Go.RowKit
set_option linter.unusedVariables false
set_option linter.unusedSimpArgs false
/-- The table's first cells. -/
theorem Tryz.info4 : (Tryz.prog.info? 4).map (fun i => (i.zero, i.size, i.bytes)) = some (some (.bool false), 1, 1) := by kernel_rfl
theorem made_bool (N : Nat) : (madeCells (Value.bool false).cells (N * 1)).toList = (List.replicate N false).map Value.bool := by
  rw [List.map_replicate]
  apply List.ext_getElem?
  intro j
  by_cases hj : j < N
  · simp [madeCells, Value.cells, List.getElem?_replicate, hj, Nat.mod_one]
  · simp [madeCells, Value.cells, List.getElem?_replicate, hj]
theorem Fr.blw {g : Nat} {w w' : World} (h : Fr (fun k => k = g) w w') {B : Nat} (hB : B ≤ w.heap.size) (hg : B ≤ g) : Below B w w' := h.below hB (fun k hk e => by omega)
set_option maxRecDepth 100000 in
set_option maxHeartbeats 6400000 in
theorem met_any {w : World} {f : Fc} {x : Fv} (hf : OkF f) (hx : FnV w f x) :
    Calls Tryz.prog 33 #[.agg #[.string x.name, .int .i64 x.params, .int .i64 x.locals, x.cv, x.hv]] w fun e w' => ∃ g L, e = .returned (.slice (some ⟨g, 0, none⟩) (f.code.length * 65) (f.code.length * 65)) ∧ TB w' g (f.code.length * 65) L ∧ TbM f L ∧ w.heap.size ≤ g ∧ Below w.heap.size w w' := by
  have HX := hide hx
  have HOF := hide hf
  have hn1 := hf.n1
  have hnm := hf.nm
  obtain ⟨_, ca, cc, ecv, _, _, _⟩ := hx.2.2.2.1
  obtain ⟨_, ha, hc, ehv, _, _, _⟩ := hx.2.2.2.2
  obtain ⟨NC, hNC⟩ : ∃ n, Hid (f.code.length = n) := ⟨_, rfl⟩
  obtain ⟨NH, hNH⟩ : ∃ n, Hid (f.hs.length = n) := ⟨_, rfl⟩
  have HRF := hide (RdI.first hf)
  rw [unhide hNC] at ecv hn1 hnm HRF ⊢
  rw [unhide hNH] at ehv
  obtain ⟨N, hN⟩ : ∃ n, Hid (NC * 65 = n) := ⟨_, rfl⟩
  rw [unhide hN] at HRF ⊢
  have HNm : Hid (1 ≤ NC ∧ NC ≤ 2000 ∧ N = NC * 65) := ⟨hn1, hnm, (unhide hN).symm⟩
  obtain ⟨xn, xp, xl, xcv, xhv⟩ := x
  simp only at ecv ehv
  subst ecv ehv
  have HME := hide (fun (wx : World) (g p h : Nat) (L : List Bool) (op a : Int) (hB : Below w.heap.size w wx) (hg : w.heap.size ≤ g) (Tb : TB wx g N L) (hI : TbI f L) (hi : f.code[p]? = some (op, a)) (hp : p < NC) (hh : h < 65) (ht : L[p * 65 + h]? = some true) =>
    meets_any (x := ⟨xn, xp, xl, .slice ca NC cc, .slice ha NH hc⟩) (unhide HOF) (unhide HX) hB hg Tb (by rw [unhide hNC, unhide hN]) hi hh (fun s hs => by
      have e1 : (p * 65 + h) / 65 = p := by omega
      have e2 : (p * 65 + h) % 65 = h := by omega
      have hm := hI.snd _ ht
      rw [e1, e2] at hm
      have := ix_lt (unhide HOF) (hm.con hi hs)
      rw [unhide hNC, unhide hN] at this
      exact this))
  simp only at HME
  obtain ⟨X1, eX1⟩ : ∃ X1, X1 = w.alloc (.cells #[.string xn, .int .i64 xp, .int .i64 xl, .slice ca NC cc, .slice ha NH hc] 45) := ⟨_, rfl⟩
  have f1 : Hid (Below (w.heap.size + 1) (w.alloc (.cells #[.string xn, .int .i64 xp, .int .i64 xl, .slice ca NC cc, .slice ha NH hc] 45)) X1) := by unfold Hid; rw [eX1]; exact Below.refl _ _
  obtain ⟨y0, y1, y2, y3, y4, yb, yl⟩ := box5 (unhide f1)
  have HYB := hide yb
  have hX1s : Hid (X1.heap.size = w.heap.size + 1) := by unfold Hid; rw [eX1]; simp
  have wm : IntKind.i64.wrap ((NC : Int) * 65) = (N : Int) := by rw [IntKind.wrap_i64]; have := unhide hN; omega
  have n0 : (0 : Int) ≤ (N : Int) := by omega
  have n1 : (0 : Int) < (N : Int) := by have := unhide HNm; omega
  have n2 : N ≤ 1048576 := by have := unhide HNm; omega
  clear hx hf hn1 hnm yb
  obtain ⟨iB, hiB, hzB0, hzB1, hzB2⟩ := info_parts Tryz.info4
  have TM := fun (w2 : World) (how : w2.ownsRow (w.heap.size + 1) 4 1 (.slice (some ⟨w.heap.size + 1, 0, none⟩) N N) N (madeCells (Value.bool false).cells (N * 1)).toList) (hgr : X1.grownBy w2 none) =>
    (show TB w2 (w.heap.size + 1) N (List.replicate N false) ∧ Below X1.heap.size X1 w2 from ⟨by have := Ro.of_own how; rw [made_bool] at this; exact this, ⟨hgr.os, hgr.tape, hgr.output, hgr.size, fun k hk => hgr.block k hk (by simp)⟩⟩)
  have HTM := hide TM
  clear TM
  go_enter Tryz.func33, Tryz.ntmps33
  go_wp2_with (first | (at_make; rw [← eX1]; refine wpList_make_full _ rfl _ _ 72 rfl (w.heap.size + 1) 4 iB (.bool false) 1 Tryz.underlying72 hiB hzB0 hzB1 _ _ _ _ N rfl rfl rfl rfl (by rw [hzB2]; omega) (by unfold maxLen; omega) (by rw [unhide hX1s]; exact Nat.le_refl _) ?_; intro w2 how hgr; obtain ⟨q1, q2⟩ := unhide HTM w2 (by simpa [unhide hX1s] using how) hgr; have T0 := hide q1; have F20 := hide q2; have fz0 := q1.free 0; have lg0 := q1.lt; have cz0 := q1.at (i := 0) (b := false) (by rw [List.getElem?_replicate, if_pos (by omega)]); clear q1 q2 how hgr))
  obtain ⟨g, hg⟩ : ∃ g, Hid (w.heap.size + 1 = g) := ⟨_, rfl⟩
  rw [unhide hg] at T0 fz0 lg0 cz0 ⊢
  obtain ⟨W3, hW3⟩ : ∃ x, Hid (w2.setCell ⟨g, 0, none⟩ (.bool true) = x) := ⟨_, rfl⟩
  have T3 : Hid (TB W3 g N ((List.replicate N false).set 0 true)) := by unfold Hid; rw [← unhide hW3]; exact (unhide T0).put (by have := unhide HNm; omega)
  have F3 : Hid (Fr (fun k => k = g) X1 W3) := by unfold Hid; rw [← unhide hW3]; exact Fr.setCell (S := fun k => k = g) (Fr.of_below (unhide F20)) ⟨g, 0, none⟩ (.inr rfl) _
  rw [unhide hW3]
  have HNG : Hid (w.heap.size ≠ g) := by have := unhide hg; unfold Hid; omega
  have HGL : Hid (w.heap.size ≤ g) := by have := unhide hg; unfold Hid; omega
  have HX1L : Hid (w.heap.size < X1.heap.size) := yl
  have HY : Hid (X1.cell? ⟨w.heap.size, 0, none⟩ = some (.string xn) ∧ X1.cell? ⟨w.heap.size, 1, none⟩ = some (.int .i64 xp) ∧ X1.cell? ⟨w.heap.size, 2, none⟩ = some (.int .i64 xl) ∧ X1.cell? ⟨w.heap.size, 3, none⟩ = some (.slice ca NC cc) ∧ X1.cell? ⟨w.heap.size, 4, none⟩ = some (.slice ha NH hc)) := ⟨y0, y1, y2, y3, y4⟩
  have HC := hide (fun (wx : World) (h : Fr (fun k => k = g) X1 wx) (o : Nat) => h.cell (a := ⟨w.heap.size, o, none⟩) (unhide HX1L) (fun e => unhide HNG e))
  have HBW := hide (fun (wx : World) (h : Fr (fun k => k = g) X1 wx) => (unhide HYB).trans (h.blw (Nat.le_of_lt (unhide HX1L)) (unhide HGL)))
  clear T0 F20 fz0 lg0 cz0 y0 y1 y2 y3 y4 yl eX1 HTM wm
  go_loopg [4, 5] (N + 2) (fun gg t4 t5 wi => ∃ (r : Nat) (an : Bool) (L : List Bool), Hid (r + gg = N + 2) ∧ t5 = .int .i64 (r : Int) ∧ t4 = .bool an ∧ Hid (TB wi g N L) ∧ Hid (RdI f r L an) ∧ Hid (Fr (fun k => k = g) X1 wi))
  case atStart => exact ⟨0, true, _, by unfold Hid; omega, rfl, rfl, T3, HRF, F3⟩
  case round =>
    obtain ⟨r, an, L, hr, rfl, rfl, hT, hR, hF⟩ := hrel
    clear T3 F3
    cases an with
    | false =>
      have HE := hide ((unhide hR).all (unhide HOF))
      go_wp2_with fail
      go_ret
      exact ⟨g, L, rfl, unhide hT, unhide HE, unhide HGL, unhide HBW _ (unhide hF)⟩
    | true =>
      have hrb : Hid (r < N) := by have := (unhide hR).bound; rw [(unhide hT).len] at this; exact this
      have r1 : (r : Int) ≤ (N : Int) := by have := unhide hrb; omega
      have r2 : r < 1048576 := by have := unhide hrb; omega
      have HL0 := hide ((unhide hR).more rfl)
      have HS0 : Hid (SwI f L (0 * 65) L false) := by unfold Hid; rw [Nat.zero_mul]; exact SwI.first (unhide hR).tb
      go_wp2_with fail
      obtain ⟨G, rfl⟩ : ∃ G, G = gk := ⟨_, rfl⟩
      go_loopg [4, 6] NC (fun gg t4 t6 wi => ∃ (pc : Nat) (b : Bool) (L1 : List Bool), Hid (pc + gg = NC) ∧ t6 = .int .i64 (pc : Int) ∧ t4 = .bool b ∧ Hid (TB wi g N L1) ∧ Hid (SwI f L (pc * 65) L1 b) ∧ Hid (Fr (fun k => k = g) X1 wi))
      case atStart => exact ⟨0, false, L, by unfold Hid; omega, rfl, rfl, hT, HS0, hF⟩
      case round =>
        obtain ⟨pc, b, L1, hpc, rfl, rfl, hT1, hS1, hF1⟩ := hrel
        have y3 := (unhide HC _ (unhide hF1) 3).trans (unhide HY).2.2.2.1
        have lw : w.heap.size < wr.heap.size := Nat.lt_of_lt_of_le (unhide HX1L) (unhide hF1).size
        by_cases hlt : pc < NC
        · have c1 : (pc : Int) < (NC : Int) := by omega
          have c2 : pc < 2000 := by have := unhide HNm; omega
          have HSa : Hid (SwI f L (pc * 65 + 0) L1 b) := hS1
          obtain ⟨⟨op, a⟩, hi⟩ : ∃ q, f.code[pc]? = some q := ⟨_, List.getElem?_eq_getElem (by rw [unhide hNC]; exact hlt)⟩
          have HIC := hide hi
          clear hi
          go_wp2_with fail
          obtain ⟨G2, rfl⟩ : ∃ G, G = gk := ⟨_, rfl⟩
          clear y3
          go_loopg [4, 7] 65 (fun gg t4 t7 wi => ∃ (h : Nat) (b : Bool) (L1 : List Bool), Hid (h + gg = 65) ∧ t7 = .int .i64 (h : Int) ∧ t4 = .bool b ∧ Hid (TB wi g N L1) ∧ Hid (SwI f L (pc * 65 + h) L1 b) ∧ Hid (Fr (fun k => k = g) X1 wi))
          case atStart => exact ⟨0, b, L1, by unfold Hid; omega, rfl, rfl, hT1, HSa, hF1⟩
          case round =>
            clear HSa hT1 hS1 hF1 lw
            obtain ⟨h, b, L1, hh, rfl, rfl, hT1, hS1, hF1⟩ := hrel
            by_cases hl2 : h < 65
            · have d1 : (h : Int) < 65 := by omega
              obtain ⟨J, hJ⟩ : ∃ J, Hid (pc * 65 + h = J) := ⟨_, rfl⟩
              rw [unhide hJ] at hS1
              have hJN : Hid (J < N) := by have := unhide HNm; have := unhide hJ; unfold Hid; omega
              have q1 : IntKind.i64.wrap ((pc : Int) * 65) = (pc : Int) * 65 := by rw [IntKind.wrap_i64]; omega
              have q2 : IntKind.i64.wrap ((pc : Int) * 65 + (h : Int)) = (J : Int) := by rw [IntKind.wrap_i64]; have := unhide hJ; omega
              have q3 : (0 : Int) ≤ (J : Int) := by omega
              have q4 : (J : Int) < (N : Int) := by have := unhide hJN; omega
              have hJL : Hid (J < L1.length) := by unfold Hid; rw [(unhide hT1).len]; exact unhide hJN
              obtain ⟨bo, hbo⟩ : ∃ bo, Hid (L1.getD J false = bo) := ⟨_, rfl⟩
              have hat : Hid (L1[J]? = some bo) := by unfold Hid; rw [← unhide hbo]; exact getD_at (unhide hJL)
              have cJ := (unhide hT1).at (unhide hat)
              have lg := (unhide hT1).lt
              cases bo with
              | false =>
                have HS2 : Hid (SwI f L (pc * 65 + (h + 1)) L1 b) := by
                  have := (unhide hS1).skip (by rw [unhide hat]; simp)
                  unfold Hid; rw [← Nat.add_assoc, unhide hJ]; exact this
                go_wp2_with fail
                go_roundg (gk - 1)
                case measure => have := unhide hh; omega
                case rel => exact ⟨h + 1, _, _, by have := unhide hh; unfold Hid; omega, by go_num, rfl, hT1, HS2, hF1⟩
              | true =>
                have e1 : Hid (J / 65 = pc ∧ J % 65 = h) := by have := unhide hJ; unfold Hid; omega
                have HS2 : Hid (SwI f L (pc * 65 + (h + 1)) ((conS f op a pc (h : Int)).foldl mkT (L1, false)).1 (b || ((conS f op a pc (h : Int)).foldl mkT (L1, false)).2)) := by
                  have := (unhide hS1).step (unhide HOF) (unhide hat) (op := op) (a := a) (by rw [(unhide e1).1]; exact unhide HIC)
                  rw [(unhide e1).1, (unhide e1).2] at this
                  unfold Hid; rw [← Nat.add_assoc, unhide hJ]; exact this
                have HM := hide (unhide HME wr g pc h L1 op a (unhide HBW _ (unhide hF1)) (unhide HGL) (unhide hT1) (unhide hS1).tb (unhide HIC) hlt hl2 (by rw [unhide hJ]; exact unhide hat))
                obtain ⟨R, hR'⟩ : ∃ R, Hid ((conS f op a pc (h : Int)).foldl mkT (L1, false) = R) := ⟨_, rfl⟩
                rw [unhide hR'] at HM HS2
                have z0 := (unhide HC _ (unhide hF1) 0).trans (unhide HY).1
                have z1 := (unhide HC _ (unhide hF1) 1).trans (unhide HY).2.1
                have z2 := (unhide HC _ (unhide hF1) 2).trans (unhide HY).2.2.1
                have z3 := (unhide HC _ (unhide hF1) 3).trans (unhide HY).2.2.2.1
                have z4 := (unhide HC _ (unhide hF1) 4).trans (unhide HY).2.2.2.2
                have lw : w.heap.size < wr.heap.size := Nat.lt_of_lt_of_le (unhide HX1L) (unhide hF1).size
                go_wp2_with fail
                refine (unhide HM).mono ?_
                rintro e w4 ⟨rfl, tb4, fr4⟩
                have T4 := hide tb4
                have F4 : Hid (Fr (fun k => k = g) X1 w4) := (unhide hF1).trans fr4
                clear tb4 fr4 z0 z1 z2 z3 z4 cJ lg lw HM
                obtain ⟨RL, Rb⟩ := R
                simp only at T4 HS2
                cases Rb with
                | true =>
                  have HS3 : Hid (SwI f L (pc * 65 + (h + 1)) RL true) := by simpa using HS2
                  go_wp2_with fail
                  go_roundg (gk - 1)
                  case measure => have := unhide hh; omega
                  case rel => exact ⟨h + 1, _, _, by have := unhide hh; unfold Hid; omega, by go_num, rfl, T4, HS3, F4⟩
                | false =>
                  have HS3 : Hid (SwI f L (pc * 65 + (h + 1)) RL b) := by simpa using HS2
                  go_wp2_with fail
                  go_roundg (gk - 1)
                  case measure => have := unhide hh; omega
                  case rel => exact ⟨h + 1, _, _, by have := unhide hh; unfold Hid; omega, by go_num, rfl, T4, HS3, F4⟩
            · have d1 : ¬ (h : Int) < 65 := by omega
              have h65 : h = 65 := by have := unhide hh; omega
              have HS2 : Hid (SwI f L ((pc + 1) * 65) L1 b) := by unfold Hid; rw [Nat.add_mul, Nat.one_mul]; have := unhide hS1; rw [h65] at this; exact this
              clear h65
              go_wp2_with fail
              go_roundg (G2 - 1)
              case measure => have := unhide hpc; omega
              case rel => exact ⟨pc + 1, _, _, by have := unhide hpc; unfold Hid; omega, by go_num, rfl, hT1, HS2, hF1⟩
        · have c1 : ¬ (pc : Int) < (NC : Int) := by omega
          have hpn : pc = NC := by have := unhide hpc; omega
          have HR2 : Hid (RdI f (r + 1) L1 b) := (unhide hS1 |> fun q => by rw [hpn, ← unhide hNC] at q; exact SwI.round (unhide HL0) q)
          clear hpn
          go_wp2_with fail
          go_roundg (G - 1)
          case measure => have := unhide hr; have := unhide hrb; omega
          case rel => exact ⟨r + 1, _, _, by have := unhide hr; have := unhide hrb; unfold Hid; omega, by go_num, rfl, hT1, HR2, hF1⟩
end Go.Proofs.YtbkfnmkfbdoadaaGreatDoor
