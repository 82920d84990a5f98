/-
  The document's Most and Program.
-/
import Derived.Test.YtlogmdldjmkkjaaGreatDoorTMeet
import Derived.Test.YtlogmdldjmkkjaaGreatDoorVPrg
import Derived.Test.YtlogmdldjmkkjaaGreatDoorVTab2
import Derived.Test.YtlogmdldjmkkjaaGreatDoorRCheck
namespace Go.Proofs.YtlogmdldjmkkjaaGreatDoor
open Go.RowKit
set_option linter.unusedVariables false
set_option linter.unusedSimpArgs false
/-- The table's first cells. -/
theorem Tryz.info4 : (Tryz.prog.info? 4).map (fun i => (i.zero, i.size, i.bytes)) = some (some (.bool false), 1, 1) := by kernel_rfl
theorem made_bool (N : Nat) : (madeCells (Value.bool false).cells (N * 1)).toList = (List.replicate N false).map Value.bool := by
  rw [List.map_replicate]
  apply List.ext_getElem?
  intro j
  by_cases hj : j < N
  · simp [madeCells, Value.cells, List.getElem?_replicate, hj, Nat.mod_one]
  · simp [madeCells, Value.cells, List.getElem?_replicate, hj]
theorem Fr.blw {g : Nat} {w w' : World} (h : Fr (fun k => k = g) w w') {B : Nat} (hB : B ≤ w.heap.size) (hg : B ≤ g) : Below B w w' := h.below hB (fun k hk e => by omega)
set_option maxRecDepth 100000 in
set_option maxHeartbeats 6400000 in
theorem met_any {w : World} {f : Fc} {x : Fv} (hf : OkF f) (hx : FnV w f x) :
    Calls Tryz.prog 98 #[.agg #[.string x.name, .int .i64 x.params, .int .i64 x.locals, x.cv, x.hv]] w fun e w' => ∃ g L, e = .returned (.slice (some ⟨g, 0, none⟩) (f.code.length * 65) (f.code.length * 65)) ∧ TB w' g (f.code.length * 65) L ∧ TbM f L ∧ w.heap.size ≤ g ∧ Below w.heap.size w w' := by
  have HX := hide hx
  have HOF := hide hf
  have hn1 := hf.n1
  have hnm := hf.nm
  obtain ⟨_, ca, cc, ecv, _, _, _⟩ := hx.2.2.2.1
  obtain ⟨_, ha, hc, ehv, _, _, _⟩ := hx.2.2.2.2
  obtain ⟨NC, hNC⟩ : ∃ n, Hid (f.code.length = n) := ⟨_, rfl⟩
  obtain ⟨NH, hNH⟩ : ∃ n, Hid (f.hs.length = n) := ⟨_, rfl⟩
  have HRF := hide (RdI.first hf)
  rw [unhide hNC] at ecv hn1 hnm HRF ⊢
  rw [unhide hNH] at ehv
  obtain ⟨N, hN⟩ : ∃ n, Hid (NC * 65 = n) := ⟨_, rfl⟩
  rw [unhide hN] at HRF ⊢
  have HNm : Hid (1 ≤ NC ∧ NC ≤ 2000 ∧ N = NC * 65) := ⟨hn1, hnm, (unhide hN).symm⟩
  obtain ⟨xn, xp, xl, xcv, xhv⟩ := x
  simp only at ecv ehv
  subst ecv ehv
  have HME := hide (fun (wx : World) (g p h : Nat) (L : List Bool) (op a : Int) (hB : Below w.heap.size w wx) (hg : w.heap.size ≤ g) (Tb : TB wx g N L) (hI : TbI f L) (hi : f.code[p]? = some (op, a)) (hp : p < NC) (hh : h < 65) (ht : L[p * 65 + h]? = some true) =>
    meets_any (x := ⟨xn, xp, xl, .slice ca NC cc, .slice ha NH hc⟩) (unhide HOF) (unhide HX) hB hg Tb (by rw [unhide hNC, unhide hN]) hi hh (fun s hs => by
      have e1 : (p * 65 + h) / 65 = p := by omega
      have e2 : (p * 65 + h) % 65 = h := by omega
      have hm := hI.snd _ ht
      rw [e1, e2] at hm
      have := ix_lt (unhide HOF) (hm.con hi hs)
      rw [unhide hNC, unhide hN] at this
      exact this))
  simp only at HME
  obtain ⟨X1, eX1⟩ : ∃ X1, X1 = w.alloc (.cells #[.string xn, .int .i64 xp, .int .i64 xl, .slice ca NC cc, .slice ha NH hc] 73) := ⟨_, rfl⟩
  have f1 : Hid (Below (w.heap.size + 1) (w.alloc (.cells #[.string xn, .int .i64 xp, .int .i64 xl, .slice ca NC cc, .slice ha NH hc] 73)) X1) := by unfold Hid; rw [eX1]; exact Below.refl _ _
  obtain ⟨y0, y1, y2, y3, y4, yb, yl⟩ := tbox5 (unhide f1)
  have HYB := hide yb
  have hX1s : Hid (X1.heap.size = w.heap.size + 1) := by unfold Hid; rw [eX1]; simp
  have wm : IntKind.i64.wrap ((NC : Int) * 65) = (N : Int) := by rw [IntKind.wrap_i64]; have := unhide hN; omega
  have n0 : (0 : Int) ≤ (N : Int) := by omega
  have n1 : (0 : Int) < (N : Int) := by have := unhide HNm; omega
  have n2 : N ≤ 1048576 := by have := unhide HNm; omega
  clear hx hf hn1 hnm yb
  obtain ⟨iB, hiB, hzB0, hzB1, hzB2⟩ := info_parts Tryz.info4
  have TM := fun (w2 : World) (how : w2.ownsRow (w.heap.size + 1) 4 1 (.slice (some ⟨w.heap.size + 1, 0, none⟩) N N) N (madeCells (Value.bool false).cells (N * 1)).toList) (hgr : X1.grownBy w2 none) =>
    (show TB w2 (w.heap.size + 1) N (List.replicate N false) ∧ Below X1.heap.size X1 w2 from ⟨by have := Ro.of_own how; rw [made_bool] at this; exact this, ⟨hgr.os, hgr.tape, hgr.output, hgr.size, fun k hk => hgr.block k hk (by simp)⟩⟩)
  have HTM := hide TM
  clear TM
  go_enter Tryz.func98, Tryz.ntmps98
  go_wp2_with (first | (at_make; rw [← eX1]; refine wpList_make_full _ rfl _ _ 170 rfl (w.heap.size + 1) 4 iB (.bool false) 1 Tryz.underlying170 hiB hzB0 hzB1 _ _ _ _ N rfl rfl rfl rfl (by rw [hzB2]; omega) (by unfold maxLen; omega) (by rw [unhide hX1s]; exact Nat.le_refl _) ?_; intro w2 how hgr; obtain ⟨q1, q2⟩ := unhide HTM w2 (by simpa [unhide hX1s] using how) hgr; have T0 := hide q1; have F20 := hide q2; have fz0 := q1.free 0; have lg0 := q1.lt; have cz0 := q1.at (i := 0) (b := false) (by rw [List.getElem?_replicate, if_pos (by omega)]); clear q1 q2 how hgr))
  obtain ⟨g, hg⟩ : ∃ g, Hid (w.heap.size + 1 = g) := ⟨_, rfl⟩
  rw [unhide hg] at T0 fz0 lg0 cz0 ⊢
  obtain ⟨W3, hW3⟩ : ∃ x, Hid (w2.setCell ⟨g, 0, none⟩ (.bool true) = x) := ⟨_, rfl⟩
  have T3 : Hid (TB W3 g N ((List.replicate N false).set 0 true)) := by unfold Hid; rw [← unhide hW3]; exact (unhide T0).put (by have := unhide HNm; omega)
  have F3 : Hid (Fr (fun k => k = g) X1 W3) := by unfold Hid; rw [← unhide hW3]; exact Fr.setCell (S := fun k => k = g) (Fr.of_below (unhide F20)) ⟨g, 0, none⟩ (.inr rfl) _
  rw [unhide hW3]
  have HNG : Hid (w.heap.size ≠ g) := by have := unhide hg; unfold Hid; omega
  have HGL : Hid (w.heap.size ≤ g) := by have := unhide hg; unfold Hid; omega
  have HX1L : Hid (w.heap.size < X1.heap.size) := yl
  have HY : Hid (X1.cell? ⟨w.heap.size, 0, none⟩ = some (.string xn) ∧ X1.cell? ⟨w.heap.size, 1, none⟩ = some (.int .i64 xp) ∧ X1.cell? ⟨w.heap.size, 2, none⟩ = some (.int .i64 xl) ∧ X1.cell? ⟨w.heap.size, 3, none⟩ = some (.slice ca NC cc) ∧ X1.cell? ⟨w.heap.size, 4, none⟩ = some (.slice ha NH hc)) := ⟨y0, y1, y2, y3, y4⟩
  have HC := hide (fun (wx : World) (h : Fr (fun k => k = g) X1 wx) (o : Nat) => h.cell (a := ⟨w.heap.size, o, none⟩) (unhide HX1L) (fun e => unhide HNG e))
  have HBW := hide (fun (wx : World) (h : Fr (fun k => k = g) X1 wx) => (unhide HYB).trans (h.blw (Nat.le_of_lt (unhide HX1L)) (unhide HGL)))
  clear T0 F20 fz0 lg0 cz0 y0 y1 y2 y3 y4 yl eX1 HTM wm
  go_loopg [4, 5] (N + 2) (fun gg t4 t5 wi => ∃ (r : Nat) (an : Bool) (L : List Bool), Hid (r + gg = N + 2) ∧ t5 = .int .i64 (r : Int) ∧ t4 = .bool an ∧ Hid (TB wi g N L) ∧ Hid (RdI f r L an) ∧ Hid (Fr (fun k => k = g) X1 wi))
  case atStart => exact ⟨0, true, _, by unfold Hid; omega, rfl, rfl, T3, HRF, F3⟩
  case round =>
    obtain ⟨r, an, L, hr, rfl, rfl, hT, hR, hF⟩ := hrel
    clear T3 F3
    cases an with
    | false =>
      have HE := hide ((unhide hR).all (unhide HOF))
      go_wp2_with fail
      go_ret
      exact ⟨g, L, rfl, unhide hT, unhide HE, unhide HGL, unhide HBW _ (unhide hF)⟩
    | true =>
      have hrb : Hid (r < N) := by have := (unhide hR).bound; rw [(unhide hT).len] at this; exact this
      have r1 : (r : Int) ≤ (N : Int) := by have := unhide hrb; omega
      have r2 : r < 1048576 := by have := unhide hrb; omega
      have HL0 := hide ((unhide hR).more rfl)
      have HS0 : Hid (SwI f L (0 * 65) L false) := by unfold Hid; rw [Nat.zero_mul]; exact SwI.first (unhide hR).tb
      go_wp2_with fail
      obtain ⟨G, rfl⟩ : ∃ G, G = gk := ⟨_, rfl⟩
      go_loopg [4, 6] NC (fun gg t4 t6 wi => ∃ (pc : Nat) (b : Bool) (L1 : List Bool), Hid (pc + gg = NC) ∧ t6 = .int .i64 (pc : Int) ∧ t4 = .bool b ∧ Hid (TB wi g N L1) ∧ Hid (SwI f L (pc * 65) L1 b) ∧ Hid (Fr (fun k => k = g) X1 wi))
      case atStart => exact ⟨0, false, L, by unfold Hid; omega, rfl, rfl, hT, HS0, hF⟩
      case round =>
        obtain ⟨pc, b, L1, hpc, rfl, rfl, hT1, hS1, hF1⟩ := hrel
        have y3 := (unhide HC _ (unhide hF1) 3).trans (unhide HY).2.2.2.1
        have lw : w.heap.size < wr.heap.size := Nat.lt_of_lt_of_le (unhide HX1L) (unhide hF1).size
        by_cases hlt : pc < NC
        · have c1 : (pc : Int) < (NC : Int) := by omega
          have c2 : pc < 2000 := by have := unhide HNm; omega
          have HSa : Hid (SwI f L (pc * 65 + 0) L1 b) := hS1
          obtain ⟨⟨op, a⟩, hi⟩ : ∃ q, f.code[pc]? = some q := ⟨_, List.getElem?_eq_getElem (by rw [unhide hNC]; exact hlt)⟩
          have HIC := hide hi
          clear hi
          go_wp2_with fail
          obtain ⟨G2, rfl⟩ : ∃ G, G = gk := ⟨_, rfl⟩
          clear y3
          go_loopg [4, 7] 65 (fun gg t4 t7 wi => ∃ (h : Nat) (b : Bool) (L1 : List Bool), Hid (h + gg = 65) ∧ t7 = .int .i64 (h : Int) ∧ t4 = .bool b ∧ Hid (TB wi g N L1) ∧ Hid (SwI f L (pc * 65 + h) L1 b) ∧ Hid (Fr (fun k => k = g) X1 wi))
          case atStart => exact ⟨0, b, L1, by unfold Hid; omega, rfl, rfl, hT1, HSa, hF1⟩
          case round =>
            clear HSa hT1 hS1 hF1 lw
            obtain ⟨h, b, L1, hh, rfl, rfl, hT1, hS1, hF1⟩ := hrel
            by_cases hl2 : h < 65
            · have d1 : (h : Int) < 65 := by omega
              obtain ⟨J, hJ⟩ : ∃ J, Hid (pc * 65 + h = J) := ⟨_, rfl⟩
              rw [unhide hJ] at hS1
              have hJN : Hid (J < N) := by have := unhide HNm; have := unhide hJ; unfold Hid; omega
              have q1 : IntKind.i64.wrap ((pc : Int) * 65) = (pc : Int) * 65 := by rw [IntKind.wrap_i64]; omega
              have q2 : IntKind.i64.wrap ((pc : Int) * 65 + (h : Int)) = (J : Int) := by rw [IntKind.wrap_i64]; have := unhide hJ; omega
              have q3 : (0 : Int) ≤ (J : Int) := by omega
              have q4 : (J : Int) < (N : Int) := by have := unhide hJN; omega
              have hJL : Hid (J < L1.length) := by unfold Hid; rw [(unhide hT1).len]; exact unhide hJN
              obtain ⟨bo, hbo⟩ : ∃ bo, Hid (L1.getD J false = bo) := ⟨_, rfl⟩
              have hat : Hid (L1[J]? = some bo) := by unfold Hid; rw [← unhide hbo]; exact getD_at (unhide hJL)
              have cJ := (unhide hT1).at (unhide hat)
              have lg := (unhide hT1).lt
              cases bo with
              | false =>
                have HS2 : Hid (SwI f L (pc * 65 + (h + 1)) L1 b) := by
                  have := (unhide hS1).skip (by rw [unhide hat]; simp)
                  unfold Hid; rw [← Nat.add_assoc, unhide hJ]; exact this
                go_wp2_with fail
                go_roundg (gk - 1)
                case measure => have := unhide hh; omega
                case rel => exact ⟨h + 1, _, _, by have := unhide hh; unfold Hid; omega, by go_num, rfl, hT1, HS2, hF1⟩
              | true =>
                have e1 : Hid (J / 65 = pc ∧ J % 65 = h) := by have := unhide hJ; unfold Hid; omega
                have HS2 : Hid (SwI f L (pc * 65 + (h + 1)) ((conS f op a pc (h : Int)).foldl mkT (L1, false)).1 (b || ((conS f op a pc (h : Int)).foldl mkT (L1, false)).2)) := by
                  have := (unhide hS1).step (unhide HOF) (unhide hat) (op := op) (a := a) (by rw [(unhide e1).1]; exact unhide HIC)
                  rw [(unhide e1).1, (unhide e1).2] at this
                  unfold Hid; rw [← Nat.add_assoc, unhide hJ]; exact this
                have HM := hide (unhide HME wr g pc h L1 op a (unhide HBW _ (unhide hF1)) (unhide HGL) (unhide hT1) (unhide hS1).tb (unhide HIC) hlt hl2 (by rw [unhide hJ]; exact unhide hat))
                obtain ⟨R, hR'⟩ : ∃ R, Hid ((conS f op a pc (h : Int)).foldl mkT (L1, false) = R) := ⟨_, rfl⟩
                rw [unhide hR'] at HM HS2
                have z0 := (unhide HC _ (unhide hF1) 0).trans (unhide HY).1
                have z1 := (unhide HC _ (unhide hF1) 1).trans (unhide HY).2.1
                have z2 := (unhide HC _ (unhide hF1) 2).trans (unhide HY).2.2.1
                have z3 := (unhide HC _ (unhide hF1) 3).trans (unhide HY).2.2.2.1
                have z4 := (unhide HC _ (unhide hF1) 4).trans (unhide HY).2.2.2.2
                have lw : w.heap.size < wr.heap.size := Nat.lt_of_lt_of_le (unhide HX1L) (unhide hF1).size
                go_wp2_with fail
                refine (unhide HM).mono ?_
                rintro e w4 ⟨rfl, tb4, fr4⟩
                have T4 := hide tb4
                have F4 : Hid (Fr (fun k => k = g) X1 w4) := (unhide hF1).trans fr4
                clear tb4 fr4 z0 z1 z2 z3 z4 cJ lg lw HM
                obtain ⟨RL, Rb⟩ := R
                simp only at T4 HS2
                cases Rb with
                | true =>
                  have HS3 : Hid (SwI f L (pc * 65 + (h + 1)) RL true) := by simpa using HS2
                  go_wp2_with fail
                  go_roundg (gk - 1)
                  case measure => have := unhide hh; omega
                  case rel => exact ⟨h + 1, _, _, by have := unhide hh; unfold Hid; omega, by go_num, rfl, T4, HS3, F4⟩
                | false =>
                  have HS3 : Hid (SwI f L (pc * 65 + (h + 1)) RL b) := by simpa using HS2
                  go_wp2_with fail
                  go_roundg (gk - 1)
                  case measure => have := unhide hh; omega
                  case rel => exact ⟨h + 1, _, _, by have := unhide hh; unfold Hid; omega, by go_num, rfl, T4, HS3, F4⟩
            · have d1 : ¬ (h : Int) < 65 := by omega
              have h65 : h = 65 := by have := unhide hh; omega
              have HS2 : Hid (SwI f L ((pc + 1) * 65) L1 b) := by unfold Hid; rw [Nat.add_mul, Nat.one_mul]; have := unhide hS1; rw [h65] at this; exact this
              clear h65
              go_wp2_with fail
              go_roundg (G2 - 1)
              case measure => have := unhide hpc; omega
              case rel => exact ⟨pc + 1, _, _, by have := unhide hpc; unfold Hid; omega, by go_num, rfl, hT1, HS2, hF1⟩
        · have c1 : ¬ (pc : Int) < (NC : Int) := by omega
          have hpn : pc = NC := by have := unhide hpc; omega
          have HR2 : Hid (RdI f (r + 1) L1 b) := (unhide hS1 |> fun q => by rw [hpn, ← unhide hNC] at q; exact SwI.round (unhide HL0) q)
          clear hpn
          go_wp2_with fail
          go_roundg (G - 1)
          case measure => have := unhide hr; have := unhide hrb; omega
          case rel => exact ⟨r + 1, _, _, by have := unhide hr; have := unhide hrb; unfold Hid; omega, by go_num, rfl, hT1, HR2, hF1⟩

set_option linter.unusedVariables false
set_option linter.unusedSimpArgs false
/-- The heights below h, as wrongHeight has gone through them. -/
structure HtI (f : Fc) (op a : Int) (p h c : Nat) : Prop where
  le : c ≤ h
  two : 2 ≤ c ↔ ∃ h1 h2 : Nat, h1 < h2 ∧ h2 < h ∧ Mt f ((p : Int), (h1 : Int)) ∧ Mt f ((p : Int), (h2 : Int))
  one : 1 ≤ c ↔ ∃ h1 : Nat, h1 < h ∧ Mt f ((p : Int), (h1 : Int))
  ok : ∀ h1 : Nat, h1 < h → Mt f ((p : Int), (h1 : Int)) → ¬ WrH f op a p h1
theorem HtI.first (f : Fc) (op a : Int) (p : Nat) : HtI f op a p 0 0 := by
  refine ⟨Nat.le_refl _, ⟨fun h => absurd h (by omega), fun ⟨_, h2, _, hl, _⟩ => absurd hl (Nat.not_lt_zero h2)⟩, ⟨fun h => absurd h (by omega), fun ⟨h1, hl, _⟩ => absurd hl (Nat.not_lt_zero h1)⟩, fun h1 hl => absurd hl (Nat.not_lt_zero h1)⟩
theorem HtI.skip {f : Fc} {op a : Int} {p h c : Nat} (H : HtI f op a p h c) (hn : ¬ Mt f ((p : Int), (h : Int))) : HtI f op a p (h + 1) c := by
  have lt : ∀ k : Nat, k < h + 1 → Mt f ((p : Int), (k : Int)) → k < h := fun k hk hm => by
    rcases Nat.lt_or_ge k h with q | q
    · exact q
    · have : k = h := by omega
      subst this
      exact absurd hm hn
  refine ⟨by have := H.le; omega, ⟨fun q => ?_, fun ⟨h1, h2, q1, q2, m1, m2⟩ => ?_⟩, ⟨fun q => ?_, fun ⟨h1, q1, m1⟩ => ?_⟩, fun h1 q m => H.ok h1 (lt h1 q m) m⟩
  · obtain ⟨h1, h2, q1, q2, m⟩ := H.two.1 q
    exact ⟨h1, h2, q1, by omega, m⟩
  · exact H.two.2 ⟨h1, h2, q1, lt h2 q2 m2, m1, m2⟩
  · obtain ⟨h1, q1, m⟩ := H.one.1 q
    exact ⟨h1, by omega, m⟩
  · exact H.one.2 ⟨h1, lt h1 q1 m1, m1⟩
theorem HtI.step {f : Fc} {op a : Int} {p h c : Nat} (H : HtI f op a p h c) (hm : Mt f ((p : Int), (h : Int))) (hw : ¬ WrH f op a p h) : HtI f op a p (h + 1) (c + 1) := by
  refine ⟨by have := H.le; omega, ⟨fun q => ?_, fun ⟨h1, h2, q1, q2, m1, m2⟩ => ?_⟩, ⟨fun q => ⟨h, by omega, hm⟩, fun _ => by omega⟩, fun h1 q m => ?_⟩
  · obtain ⟨h1, q1, m1⟩ := H.one.1 (by omega)
    exact ⟨h1, h, q1, by omega, m1, hm⟩
  · have : 1 ≤ c := H.one.2 ⟨h1, by omega, m1⟩
    omega
  · by_cases e : h1 = h
    · subst e; exact hw
    · exact H.ok h1 (by omega) m
theorem HtI.last {f : Fc} (hf : OkF f) {op a : Int} {p c : Nat} (H : HtI f op a p 65 c) (hi : f.code[p]? = some (op, a)) : (decide ((1 : Int) < (c : Int)) = true) ↔ BadM f p := by
  rw [badM_iff hf hi, decide_eq_true_eq]
  constructor
  · intro q
    obtain ⟨h1, h2, q1, q2, m⟩ := H.two.1 (by omega)
    exact .inr ⟨h1, h2, q1, q2, m⟩
  · rintro (⟨h, hh, hm, hw⟩ | ⟨h1, h2, q1, q2, m⟩)
    · exact absurd hw (H.ok h hh hm)
    · have := H.two.2 ⟨h1, h2, q1, q2, m⟩
      omega
/-- No handler ahead of the j-th wants more. -/
def NoW (f : Fc) (p : Nat) (z : Int) (j : Nat) : Prop := ∀ (i : Nat) (k : Hd), i < j → f.hs[i]? = some k → hol k p = true → ¬ z < k.height
/-- What wrongHeight answers. -/
def WgP (f : Fc) (p : Nat) (w : World) (e : Ending) (w' : World) : Prop := ∃ b : Bool, e = .returned (.bool b) ∧ (b = true ↔ BadM f p) ∧ Below w.heap.size w w'
set_option maxRecDepth 100000 in
set_option maxHeartbeats 6400000 in
theorem wrong_any {w0 w : World} {f : Fc} {x : Fv} {g N p : Nat} {L : List Bool} {op a : Int} (hf : OkF f) (hx : FnV w0 f x) (hB : Below w0.heap.size w0 w) (Tb : TB w g N L) (hN : N = f.code.length * 65) (hM : TbM f L) (hi : f.code[p]? = some (op, a)) :
    Calls Tryz.prog 99 #[.agg #[.string x.name, .int .i64 x.params, .int .i64 x.locals, x.cv, x.hv], .slice (some ⟨g, 0, none⟩) N N, .int .i64 (p : Int)] w fun e w' => WgP f p w e w' := by
  obtain ⟨hok, hja⟩ := hf.ins p op a hi
  have htp := tp_bounds hok
  have hp : p < f.code.length := (List.getElem?_eq_some_iff.1 hi).1
  have hnm := hf.nm
  have hxw := hx.below hB (Nat.le_refl _)
  have HX := hide hxw
  have HOF := hide hf
  have HI := hide hi
  have HTb := hide Tb
  have HM := hide hM
  obtain ⟨cb, co, cc, ecv, _, _, lc, hc⟩ := Rx.elem zI hxw.2.2.2.1 hi
  have c0 := hc 0 _ rfl
  have c1 := hc 1 _ rfl
  rw [Nat.add_zero] at c0
  have HEf := hide (fun w => dEffect_any w op a (ok_I64 hok))
  obtain ⟨tkv, htk⟩ : ∃ t : Nat, Hid (tkI op a = (t : Int)) := ⟨(tkI op a).toNat, by unfold Hid; omega⟩
  obtain ⟨ptv, hpt⟩ : ∃ t : Nat, Hid (ptI op a = (t : Int)) := ⟨(ptI op a).toNat, by unfold Hid; omega⟩
  have HTP : Hid (tkv ≤ 66 ∧ ptv ≤ 2) := by have := unhide htk; have := unhide hpt; unfold Hid; omega
  rw [unhide htk, unhide hpt, hok] at HEf
  obtain ⟨NC, hNC⟩ : ∃ n, Hid (f.code.length = n) := ⟨_, rfl⟩
  obtain ⟨NH, hNH⟩ : ∃ n, Hid (f.hs.length = n) := ⟨_, rfl⟩
  have HNm : Hid (NC ≤ 2000 ∧ N = NC * 65 ∧ p < NC ∧ NH ≤ 1000) := by have := hf.hm; unfold Hid; rw [← unhide hNC, ← unhide hNH]; exact ⟨hnm, hN, hp, this⟩
  rw [unhide hNC] at ecv hp
  have p0 : (0 : Int) ≤ (p : Int) := by omega
  have p1 : (p : Int) < (NC : Int) := by omega
  obtain ⟨xn, xp, xl, xcv, hv⟩ := x
  simp only at ecv
  subst ecv
  have hshape := hxw.2.2.2.2
  simp only at hshape
  obtain ⟨_, ha2, hc2, ehv0, _, _, _⟩ := hshape
  have hhvv : Hid (hv = .slice ha2 NH hc2) := by unfold Hid; rw [← unhide hNH]; exact ehv0
  have HWR : Hid (∀ h : Nat, WrH f op a p h ↔ (h : Int) < (tkv : Int) ∨ 65 ≤ (h : Int) - (tkv : Int) + (ptv : Int) ∨ ∃ k ∈ f.hs, hol k p = true ∧ (h : Int) - (tkv : Int) < k.height) := fun h => by unfold WrH; rw [unhide htk, unhide hpt]
  obtain ⟨X1, eX1⟩ : ∃ X1, X1 = w.alloc (.cells #[.string xn, .int .i64 xp, .int .i64 xl, .slice (some ⟨cb, co, none⟩) NC cc, hv] 73) := ⟨_, rfl⟩
  have f1 : Hid (Below (w.heap.size + 1) (w.alloc (.cells #[.string xn, .int .i64 xp, .int .i64 xl, .slice (some ⟨cb, co, none⟩) NC cc, hv] 73)) X1) := by unfold Hid; rw [eX1]; exact Below.refl _ _
  obtain ⟨y0, y1, y2, y3, y4, yb, yl⟩ := tbox5 (unhide f1)
  have c0 := (yb.cell (p := ⟨cb, co + p * 2, none⟩) lc).trans c0
  have c1 := (yb.cell (p := ⟨cb, co + p * 2 + 1, none⟩) lc).trans c1
  have lcx : cb < X1.heap.size := by omega
  have HW1 : Hid (IntKind.i64.wrap ((p : Int) * 65) = (p : Int) * 65) := by unfold Hid; rw [IntKind.wrap_i64]; have := unhide HNm; omega
  clear hok hja htp hx hB Tb hM hN hi hxw hc ehv0 yb hf hnm
  go_enter Tryz.func99, Tryz.ntmps99
  go_wp2_with fail
  rw [← eX1]
  clear eX1
  refine (unhide HEf _).mono ?_
  rintro e W2 ⟨rfl, hb⟩
  have F2 : Hid (Below (w.heap.size + 1) (w.alloc (.cells #[.string xn, .int .i64 xp, .int .i64 xl, .slice (some ⟨cb, co, none⟩) NC cc, hv] 73)) W2) := (unhide f1).trans (hb.mono (by have := (unhide f1).size; simp at this; omega))
  clear hb y0 y1 y2 y3 y4 yl c0 c1 lcx
  go_wp2_with fail
  go_loopg [10, 11] 65 (fun gg t10 t11 wr => ∃ (h c : Nat), Hid (h + gg = 65) ∧ t11 = .int .i64 (h : Int) ∧ t10 = .int .i64 (c : Int) ∧ Hid (HtI f op a p h c) ∧ Hid (Below (w.heap.size + 1) (w.alloc (.cells #[.string xn, .int .i64 xp, .int .i64 xl, .slice (some ⟨cb, co, none⟩) NC cc, hv] 73)) wr))
  case atStart => exact ⟨0, 0, by unfold Hid; omega, rfl, rfl, HtI.first f op a p, F2⟩
  case round =>
    obtain ⟨h, c, hh, rfl, rfl, hH, hF⟩ := hrel
    clear F2
    by_cases hl2 : h < 65
    · have d1 : (h : Int) < 65 := by omega
      have hcb : c ≤ 65 := by have := (unhide hH).le; omega
      obtain ⟨J, hJ⟩ : ∃ J, Hid (p * 65 + h = J) := ⟨_, rfl⟩
      have hJN : Hid (J < N) := by have := unhide HNm; have := unhide hJ; unfold Hid; omega
      have q1 := unhide HW1
      have q2 : IntKind.i64.wrap ((p : Int) * 65 + (h : Int)) = (J : Int) := by rw [IntKind.wrap_i64]; have := unhide hJ; have := unhide HNm; omega
      have q3 : (0 : Int) ≤ (J : Int) := by omega
      have q4 : (J : Int) < (N : Int) := by have := unhide hJN; omega
      obtain ⟨y0, y1, y2, y3, y4, yb, yl⟩ := tbox5 (unhide hF)
      have hT1 : Hid (TB wr g N L) := (unhide HTb).fr (S := fun _ => False) (Fr.of_below yb) (fun e => e)
      have hJL : Hid (J < L.length) := by unfold Hid; rw [(unhide hT1).len]; exact unhide hJN
      obtain ⟨bo, hbo⟩ : ∃ bo, Hid (L.getD J false = bo) := ⟨_, rfl⟩
      have hat : Hid (L[J]? = some bo) := by unfold Hid; rw [← unhide hbo]; exact getD_at (unhide hJL)
      have hmt : Hid (bo = true ↔ Mt f ((p : Int), (h : Int))) := by
        have := (unhide HM).2 p h (by rw [unhide hNC]; exact (unhide HNm).2.2.1) hl2
        rw [unhide hJ, unhide hat] at this
        unfold Hid
        rw [← this]
        simp
      have cJ := (unhide hT1).at (unhide hat)
      have lg := (unhide hT1).lt
      have HYB := hide yb
      clear yb
      cases bo with
      | false =>
        have HS2 := hide ((unhide hH).skip (fun q => by have := (unhide hmt).2 q; cases this))
        go_wp2_with fail
        go_roundg (gk - 1)
        case measure => have := unhide hh; omega
        case rel => exact ⟨h + 1, c, by have := unhide hh; unfold Hid; omega, by go_num, rfl, HS2, hF⟩
      | true =>
        have hm : Hid (Mt f ((p : Int), (h : Int))) := (unhide hmt).1 rfl
        have HBAD : Hid (WrH f op a p h → BadM f p) := fun q => (badM_iff (unhide HOF) (unhide HI)).2 (.inl ⟨h, hl2, unhide hm, q⟩)
        have v1 : IntKind.i64.wrap ((h : Int) - (tkv : Int)) = (h : Int) - (tkv : Int) := by rw [IntKind.wrap_i64]; have := unhide HTP; omega
        have v2 : IntKind.i64.wrap ((h : Int) - (tkv : Int) + (ptv : Int)) = (h : Int) - (tkv : Int) + (ptv : Int) := by rw [IntKind.wrap_i64]; have := unhide HTP; omega
        by_cases e1 : (h : Int) < (tkv : Int)
        · have HB1 := hide (unhide HBAD ((unhide HWR h).2 (.inl e1)))
          go_wp2_with fail
          go_ret
          exact ⟨true, rfl, ⟨fun _ => unhide HB1, fun _ => rfl⟩, unhide HYB⟩
        by_cases e2 : 65 ≤ (h : Int) - (tkv : Int) + (ptv : Int)
        · have HB1 := hide (unhide HBAD ((unhide HWR h).2 (.inr (.inl e2))))
          go_wp2_with fail
          go_ret
          exact ⟨true, rfl, ⟨fun _ => unhide HB1, fun _ => rfl⟩, unhide HYB⟩
        have HE12 : Hid (¬ (h : Int) < (tkv : Int) ∧ ¬ 65 ≤ (h : Int) - (tkv : Int) + (ptv : Int)) := ⟨e1, e2⟩
        go_wp2_with fail
        obtain ⟨G, rfl⟩ : ∃ G, G = gk := ⟨_, rfl⟩
        clear cJ lg y0 y1 y2 y3 y4 yl
        go_loopg [12] NH (fun gg t12 wr => ∃ (j : Nat), Hid (j + gg = NH) ∧ t12 = .int .i64 (j : Int) ∧ Hid (NoW f p ((h : Int) - (tkv : Int)) j) ∧ Hid (Below (w.heap.size + 1) (w.alloc (.cells #[.string xn, .int .i64 xp, .int .i64 xl, .slice (some ⟨cb, co, none⟩) NC cc, hv] 73)) wr))
        case atStart => exact ⟨0, by unfold Hid; omega, rfl, fun i k hi => absurd hi (Nat.not_lt_zero i), hF⟩
        case round =>
          clear hF HYB hT1
          obtain ⟨j, hj, rfl, hQ, hF⟩ := hrel
          obtain ⟨y0, y1, y2, y3, y4, yb, yl⟩ := tbox5 (unhide hF)
          have HYB := hide yb
          by_cases hlt : j < NH
          · obtain ⟨k, hk⟩ : ∃ k, f.hs[j]? = some k := ⟨_, List.getElem?_eq_getElem (by rw [unhide hNH]; exact hlt)⟩
            obtain ⟨hb, ho, hcap, ehv, _, _, lh, hc⟩ := Rx.elem zH (unhide HX).2.2.2.2 hk
            have ehv' : hv = .slice (some ⟨hb, ho, none⟩) NH hcap := by rw [← unhide hNH]; exact ehv
            have kk := fun o v (hv : (enH k)[o]? = some v) => (yb.cell (p := ⟨hb, ho + j * 4 + o, none⟩) lh).trans (hc o v hv)
            have k0 := kk 0 _ rfl
            have k1 := kk 1 _ rfl
            have k2 := kk 2 _ rfl
            have k3 := kk 3 _ rfl
            rw [Nat.add_zero] at k0
            have lhr : hb < wr.heap.size := Nat.lt_of_lt_of_le lh yb.size
            rw [ehv'] at y4
            have j0 : (0 : Int) ≤ (j : Int) := by omega
            have j1 : (j : Int) < (NH : Int) := by omega
            have jb : j < 1000 := by have := (unhide HNm).2.2.2; omega
            have HH := hide (fun w => holds_any w k (p : Int))
            have HK := hide hk
            have HQ2 : Hid ((hol k p = true → ¬ (h : Int) - (tkv : Int) < k.height) → NoW f p ((h : Int) - (tkv : Int)) (j + 1)) := fun q i k' hi hk' => by
              by_cases e : i = j
              · subst e; rw [unhide HK] at hk'; cases hk'; exact q
              · exact unhide hQ i k' (by omega) hk'
            have HB3 : Hid (hol k p = true → (h : Int) - (tkv : Int) < k.height → BadM f p) := fun q1 q2 => unhide HBAD ((unhide HWR h).2 (.inr (.inr ⟨k, List.mem_of_getElem? (unhide HK), q1, q2⟩)))
            clear hc kk hk ehv ehv' yb
            cases hh2 : hol k (p : Int)
            · rw [hh2] at HH
              have HQ3 := hide (unhide HQ2 (fun q => by rw [hh2] at q; cases q))
              clear hh2
              go_wp2_with fail
              refine (unhide HH _).mono ?_
              rintro e w2 ⟨rfl, hb2⟩
              have HF2 : Hid (Below (w.heap.size + 1) (w.alloc (.cells #[.string xn, .int .i64 xp, .int .i64 xl, .slice (some ⟨cb, co, none⟩) NC cc, hv] 73)) w2) := (unhide hF).trans (hb2.mono (by have := (unhide hF).size; simp at this; omega))
              clear hb2
              go_wp2_with fail
              go_roundg (gk - 1)
              case measure => have := unhide hj; omega
              case rel => exact ⟨j + 1, by have := unhide hj; unfold Hid; omega, by go_num, HQ3, HF2⟩
            · rw [hh2] at HH
              have HB4 := hide (unhide HB3 hh2)
              obtain ⟨kf, kt, kg, kh⟩ := k
              simp only at k0 k1 k2 k3 HQ2 HB4
              clear hh2 HB3
              go_wp2_with fail
              refine (unhide HH _).mono ?_
              rintro e w2 ⟨rfl, hb2⟩
              have HF2 : Hid (Below (w.heap.size + 1) (w.alloc (.cells #[.string xn, .int .i64 xp, .int .i64 xl, .slice (some ⟨cb, co, none⟩) NC cc, hv] 73)) w2) := (unhide hF).trans (hb2.mono (by have := (unhide hF).size; simp at this; omega))
              have HYB2 : Hid (Below w.heap.size w w2) := (unhide HYB).trans (hb2.mono (unhide HYB).size)
              have y4 := (hb2.cell (p := ⟨w.heap.size, 4, none⟩) yl).trans y4
              have k3 := (hb2.cell (p := ⟨hb, ho + j * 4 + 3, none⟩) lhr).trans k3
              have yl2 := Nat.lt_of_lt_of_le yl hb2.size
              have lh2 := Nat.lt_of_lt_of_le lhr hb2.size
              clear hb2 k0 k1 k2 y0 y1 y2 y3
              by_cases e3 : (h : Int) - (tkv : Int) < kh
              · have HB5 := hide (unhide HB4 e3)
                go_wp2_with fail
                go_ret
                exact ⟨true, rfl, ⟨fun _ => unhide HB5, fun _ => rfl⟩, unhide HYB2⟩
              · have HQ3 := hide (unhide HQ2 (fun _ => by omega))
                go_wp2_with fail
                go_roundg (gk - 1)
                case measure => have := unhide hj; omega
                case rel => exact ⟨j + 1, by have := unhide hj; unfold Hid; omega, by go_num, HQ3, HF2⟩
          · have hjn : NH = j := by have := unhide hj; omega
            have HNW : Hid (¬ WrH f op a p h) := fun q => by
              rcases (unhide HWR h).1 q with q | q | ⟨k, hk, q1, q2⟩
              · have := (unhide HE12).1; omega
              · have := (unhide HE12).2; omega
              · obtain ⟨i, hi, rfl⟩ := List.getElem_of_mem hk
                exact unhide hQ i _ (by rw [← hjn, ← unhide hNH]; exact hi) (List.getElem?_eq_getElem hi) q1 q2
            have HS2 := hide ((unhide hH).step (unhide hm) (unhide HNW))
            subst hjn
            rw [unhide hhvv] at y4
            go_wp2_with fail
            go_roundg (G - 1)
            case measure => have := unhide hh; omega
            case rel => exact ⟨h + 1, c + 1, by have := unhide hh; unfold Hid; omega, by go_num, by go_num, HS2, hF⟩
    · have d1 : ¬ (h : Int) < 65 := by omega
      have h65 : h = 65 := by have := unhide hh; omega
      have HL : Hid ((decide ((1 : Int) < (c : Int)) = true) ↔ BadM f p) := by have q := unhide hH; rw [h65] at q; exact q.last (unhide HOF) (unhide HI)
      have HYB := hide (tbox5 (unhide hF)).2.2.2.2.2.1
      clear h65
      go_wp2_with fail
      go_ret
      exact ⟨_, rfl, unhide HL, unhide HYB⟩
/-- What height answers. -/
def HgR (f : Fc) (p : Nat) (z : Int) : Prop := (z = -1 ∧ ∀ ht, ¬ Mt f ((p : Int), ht)) ∨ (0 ≤ z ∧ z < 65 ∧ Mt f ((p : Int), z))
set_option maxRecDepth 100000 in
set_option maxHeartbeats 3200000 in
theorem height_any {w : World} {f : Fc} {g N p : Nat} {L : List Bool} (hf : OkF f) (Tb : TB w g N L) (hN : N = f.code.length * 65) (hM : TbM f L) (hp : p < f.code.length) :
    Calls Tryz.prog 100 #[.slice (some ⟨g, 0, none⟩) N N, .int .i64 (p : Int)] w fun e w' => ∃ z, e = .returned (.int .i64 z) ∧ HgR f p z ∧ w' = w := by
  have hnm := hf.nm
  have HOF := hide hf
  have HTb := hide Tb
  have HM := hide hM
  have HNm : Hid (f.code.length ≤ 2000 ∧ N = f.code.length * 65 ∧ p < f.code.length) := ⟨hnm, hN, hp⟩
  have lg := Tb.lt
  have q1 : IntKind.i64.wrap ((p : Int) * 65) = (p : Int) * 65 := by rw [IntKind.wrap_i64]; omega
  clear hf Tb hM hN hp hnm
  go_enter Tryz.func100, Tryz.ntmps100
  go_wp2_with fail
  go_loopg [5] 65 (fun gg t5 wr => ∃ (h : Nat), Hid (h + gg = 65) ∧ t5 = .int .i64 (h : Int) ∧ wr = w ∧ Hid (∀ k : Nat, k < h → ¬ Mt f ((p : Int), (k : Int))))
  case atStart => exact ⟨0, by unfold Hid; omega, rfl, rfl, fun k hk => absurd hk (Nat.not_lt_zero k)⟩
  case round =>
    obtain ⟨h, hh, rfl, hX, hQ⟩ := hrel
    obtain rfl := hX.symm
    clear hX
    by_cases hl2 : h < 65
    · have d1 : (h : Int) < 65 := by omega
      obtain ⟨J, hJ⟩ : ∃ J, Hid (p * 65 + h = J) := ⟨_, rfl⟩
      have hJN : Hid (J < N) := by have := unhide HNm; have := unhide hJ; unfold Hid; omega
      have q2 : IntKind.i64.wrap ((p : Int) * 65 + (h : Int)) = (J : Int) := by rw [IntKind.wrap_i64]; have := unhide hJ; have := unhide HNm; omega
      have q3 : (0 : Int) ≤ (J : Int) := by omega
      have q4 : (J : Int) < (N : Int) := by have := unhide hJN; omega
      have hJL : Hid (J < L.length) := by unfold Hid; rw [(unhide HTb).len]; exact unhide hJN
      obtain ⟨bo, hbo⟩ : ∃ bo, Hid (L.getD J false = bo) := ⟨_, rfl⟩
      have hat : Hid (L[J]? = some bo) := by unfold Hid; rw [← unhide hbo]; exact getD_at (unhide hJL)
      have hmt : Hid (bo = true ↔ Mt f ((p : Int), (h : Int))) := by
        have := (unhide HM).2 p h (unhide HNm).2.2 hl2
        rw [unhide hJ, unhide hat] at this
        unfold Hid
        rw [← this]
        simp
      have cJ := (unhide HTb).at (unhide hat)
      cases bo with
      | false =>
        have HQ2 : Hid (∀ k : Nat, k < h + 1 → ¬ Mt f ((p : Int), (k : Int))) := fun k hk => by
          by_cases e : k = h
          · subst e; intro q; have := (unhide hmt).2 q; cases this
          · exact unhide hQ k (by omega)
        go_wp2_with fail
        go_roundg (gk - 1)
        case measure => have := unhide hh; omega
        case rel => exact ⟨h + 1, by have := unhide hh; unfold Hid; omega, by go_num, rfl, HQ2⟩
      | true =>
        have HG : Hid (HgR f p (h : Int)) := .inr ⟨by omega, by omega, (unhide hmt).1 rfl⟩
        go_wp2_with fail
        go_ret
        exact ⟨_, rfl, unhide HG, rfl⟩
    · have d1 : ¬ (h : Int) < 65 := by omega
      have HG : Hid (HgR f p (-1)) := .inl ⟨rfl, fun ht hm => by
        have h1 := hm.bd (unhide HOF)
        have h2 := hm.h64 (unhide HOF)
        simp only at h1 h2
        have := unhide hQ ht.toNat (by have := unhide hh; omega)
        rw [Int.toNat_of_nonneg h1.2.2.1] at this
        exact this hm⟩
      go_wp2_with fail
      go_ret
      exact ⟨_, rfl, unhide HG, rfl⟩

set_option linter.unusedVariables false
set_option linter.unusedSimpArgs false
/-- What Function answers. -/
def FuP (f : Fc) (w : World) (e : Ending) (w' : World) : Prop := ∃ (v : Value) (hvs : Option (List Int)) (pl er : Int), e = .returned (.tuple #[v, .int .i64 pl, .int .i64 er]) ∧ FnR f hvs pl er ∧ (hvs = none → v = .slice none 0 0) ∧ (∀ l, hvs = some l → Ro w' 1 v l.length (flt enN l) ∧ ∀ k, v.ownBlock = some k → w.heap.size ≤ k) ∧ Below w.heap.size w w'
/-- The heights so far. -/
structure HsI (f : Fc) (pc : Nat) (l : List Int) : Prop where
  len : l.length = pc
  un : ∀ q, q < pc → ¬ Un f q
  mt : ∀ (q : Nat) (ht : Int), q < pc → (l[q]? = some ht ↔ Mt f ((q : Int), ht))
theorem HsI.push {f : Fc} (hb : ∀ q, ¬ BadM f q) {pc : Nat} {l : List Int} (H : HsI f pc l) {z op a : Int} (hi : f.code[pc]? = some (op, a)) (hm : Mt f ((pc : Int), z)) (hl : pc + 1 = f.code.length → enB op = true) : HsI f (pc + 1) (l ++ [z]) := by
  refine ⟨by rw [List.length_append, H.len]; rfl, fun q hq => ?_, fun q ht hq => ?_⟩
  · by_cases e : q = pc
    · subst e
      rintro ⟨op', a', hi', h⟩
      rw [hi] at hi'
      cases hi'
      rcases h with h | ⟨h1, h2⟩
      · exact h z hm
      · rw [hl h1] at h2; cases h2
    · exact H.un q (by omega)
  · by_cases e : q = pc
    · subst e
      rw [List.getElem?_append_right (by rw [H.len]; exact Nat.le_refl _), H.len, Nat.sub_self]
      constructor
      · intro h
        simp at h
        rw [← h]; exact hm
      · intro h
        by_cases e2 : z = ht
        · rw [e2]; rfl
        · exact absurd ⟨z, op, a, hm, hi, .inl ⟨ht, h, fun e => e2 e.symm⟩⟩ (hb q)
    · rw [List.getElem?_append_left (by rw [H.len]; omega)]
      exact H.mt q ht (by omega)
theorem HsI.all {f : Fc} (hf : OkF f) (hb : ∀ q, ¬ BadM f q) {l : List Int} (H : HsI f f.code.length l) : FnR f (some l) 0 0 := by
  refine .inr (.inr ⟨rfl, rfl, hb, fun q hq => ?_, l, rfl, H.len, fun p ht => ?_⟩)
  · obtain ⟨op, a, hi, _⟩ := id hq
    exact H.un q (List.getElem?_eq_some_iff.1 hi).1 hq
  · by_cases q : p < f.code.length
    · exact H.mt p ht q
    · constructor
      · intro h; rw [List.getElem?_eq_none (by rw [H.len]; omega)] at h; cases h
      · intro h; have := h.bd hf; simp only at this; omega
theorem bad_all {f : Fc} (h : ∀ q, q < f.code.length → ¬ BadM f q) : ∀ q, ¬ BadM f q := fun q hq => by
  obtain ⟨_, _, _, _, hi, _⟩ := id hq
  exact h q (List.getElem?_eq_some_iff.1 hi).1 hq
set_option maxRecDepth 100000 in
set_option maxHeartbeats 6400000 in
theorem tfunction_any {w : World} {f : Fc} {x : Fv} (hf : OkF f) (hx : FnV w f x) :
    Calls Tryz.prog 56 #[.agg #[.string x.name, .int .i64 x.params, .int .i64 x.locals, x.cv, x.hv]] w fun e w' => FuP f w e w' := by
  have HX := hide hx
  have HOF := hide hf
  have hn1 := hf.n1
  have hnm := hf.nm
  obtain ⟨NC, hNC⟩ : ∃ n, Hid (f.code.length = n) := ⟨_, rfl⟩
  have HNm : Hid (1 ≤ NC ∧ NC ≤ 2000) := by rw [← unhide hNC]; exact ⟨hn1, hnm⟩
  obtain ⟨N, hN⟩ : ∃ n, Hid (f.code.length * 65 = n) := ⟨_, rfl⟩
  obtain ⟨i0, hi0⟩ : ∃ q, f.code[0]? = some q := ⟨_, List.getElem?_eq_getElem (by omega)⟩
  obtain ⟨cb, co, cc, ecv, _, _, _, _⟩ := Rx.elem zI hx.2.2.2.1 hi0
  obtain ⟨xn, xp, xl, xcv, xhv⟩ := x
  simp only at ecv
  rw [unhide hNC] at ecv
  subst ecv
  have HCode := hide (fun (pc : Nat) (op a : Int) (hi : f.code[pc]? = some (op, a)) => Rx.elem zI (unhide HX).2.2.2.1 hi)
  simp only at HCode
  have HMet := hide (fun (wx : World) (hB : Below w.heap.size w wx) => met_any (x := ⟨xn, xp, xl, .slice (some ⟨cb, co, none⟩) NC cc, xhv⟩) (unhide HOF) ((unhide HX).below hB (Nat.le_refl _)))
  simp only at HMet
  have HWr := hide (fun (wx : World) (g p : Nat) (L : List Bool) (op a : Int) (hB : Below w.heap.size w wx) (Tb : TB wx g N L) (hM : TbM f L) (hi : f.code[p]? = some (op, a)) => wrong_any (x := ⟨xn, xp, xl, .slice (some ⟨cb, co, none⟩) NC cc, xhv⟩) (unhide HOF) (unhide HX) hB Tb (unhide hN).symm hM hi)
  simp only at HWr
  have HHt := hide (fun (wx : World) (g p : Nat) (L : List Bool) (Tb : TB wx g N L) (hM : TbM f L) (hp : p < NC) => height_any (unhide HOF) Tb (unhide hN).symm hM (by rw [unhide hNC]; exact hp))
  rw [unhide hN] at HMet
  obtain ⟨X1, eX1⟩ : ∃ X1, X1 = (w.alloc (.cells #[.string xn, .int .i64 xp, .int .i64 xl, .slice (some ⟨cb, co, none⟩) NC cc, xhv] 73)) := ⟨_, rfl⟩
  have f1 : Hid (Below (w.heap.size + 1) (w.alloc (.cells #[.string xn, .int .i64 xp, .int .i64 xl, .slice (some ⟨cb, co, none⟩) NC cc, xhv] 73)) X1) := by unfold Hid; rw [eX1]; exact Below.refl _ _
  obtain ⟨y0, y1, y2, y3, y4, yb, yl⟩ := tbox5 (unhide f1)
  have HYB := hide yb
  have HS1 : Hid (w.heap.size + 1 ≤ X1.heap.size) := by unfold Hid; omega
  clear hx hf hn1 hnm yb hi0
  go_enter Tryz.func56, Tryz.ntmps56
  go_wp2_with fail
  rw [← eX1]
  clear eX1
  refine (unhide HMet _ (unhide HYB)).mono ?_
  rintro e W2 ⟨g, L, rfl, tb, tm, hg, hb⟩
  have T2 := hide tb
  have HM := hide tm
  have F2 : Hid (Below (w.heap.size + 1) (w.alloc (.cells #[.string xn, .int .i64 xp, .int .i64 xl, .slice (some ⟨cb, co, none⟩) NC cc, xhv] 73)) W2) := (unhide f1).trans (hb.mono (unhide HS1))
  clear tb tm hb y0 y1 y2 y3 y4 yl hg
  have HSB := hide (fun (wx : World) (h : Below W2.heap.size W2 wx) => (unhide F2).trans (h.mono (by have := (unhide F2).size; simp at this; omega)))
  have HTB := hide (fun (wx : World) (h : Below W2.heap.size W2 wx) => (unhide T2).fr (S := fun _ => False) (Fr.of_below h) (fun e => e))
  go_wp2_with fail
  go_loopg [6] NC (fun gg t6 wr => ∃ (pc : Nat), Hid (pc + gg = NC) ∧ t6 = .int .i64 (pc : Int) ∧ Hid (∀ q, q < pc → ¬ BadM f q) ∧ Hid (Below W2.heap.size W2 wr))
  case atStart => exact ⟨0, by unfold Hid; omega, rfl, fun q hq => absurd hq (Nat.not_lt_zero q), Below.refl _ _⟩
  case round =>
    obtain ⟨pc, hpc, rfl, hQ, hF⟩ := hrel
    obtain ⟨y0, y1, y2, y3, y4, yb, yl⟩ := tbox5 (unhide HSB _ (unhide hF))
    have HYB2 := hide yb
    clear yb
    by_cases hlt : pc < NC
    · have c1 : (pc : Int) < (NC : Int) := by omega
      have c2 : pc < 2000 := by have := unhide HNm; omega
      obtain ⟨⟨op, a⟩, hi⟩ : ∃ q, f.code[pc]? = some q := ⟨_, List.getElem?_eq_getElem (by rw [unhide hNC]; exact hlt)⟩
      have HW := hide (unhide HWr wr g pc L op a (unhide HYB2) (unhide HTB _ (unhide hF)) (unhide HM) hi)
      clear hi
      go_wp2_with fail
      refine (unhide HW).mono ?_
      rintro e w4 ⟨b, rfl, hb, hB4⟩
      have HB := hide hb
      have HF4 : Hid (Below W2.heap.size W2 w4) := (unhide hF).trans (hB4.mono (unhide hF).size)
      have HYB4 : Hid (Below w.heap.size w w4) := (unhide HYB2).trans (hB4.mono (unhide HYB2).size)
      clear hb hB4 y0 y1 y2 y3 y4 yl HW
      cases b with
      | true =>
        have HR : Hid (FnR f none (pc : Int) 9) := .inl ⟨rfl, rfl, pc, rfl, (unhide HB).1 rfl, unhide hQ⟩
        go_wp2_with fail
        go_ret3
        exact ⟨_, none, _, _, rfl, unhide HR, fun _ => rfl, fun l hl => (by cases hl), unhide HYB4⟩
      | false =>
        have HQ2 : Hid (∀ q, q < pc + 1 → ¬ BadM f q) := fun q hq => by
          by_cases e : q = pc
          · subst e; intro h; have := (unhide HB).2 h; cases this
          · exact unhide hQ q (by omega)
        go_wp2_with fail
        go_roundg (gk - 1)
        case measure => have := unhide hpc; omega
        case rel => exact ⟨pc + 1, by have := unhide hpc; unfold Hid; omega, by go_num, HQ2, HF4⟩
    · have c1 : ¬ (pc : Int) < (NC : Int) := by omega
      have HQA : Hid (∀ q, ¬ BadM f q) := bad_all (fun q hq => unhide hQ q (by rw [unhide hNC] at hq; omega))
      have G0 : Hid (Gn W2 [] (.slice none 0 0) wr) := ⟨Ro.nil _ _, unhide hF, fun k hk => by simp [Value.ownBlock] at hk⟩
      have H0 : Hid (HsI f 0 []) := ⟨rfl, fun q hq => absurd hq (Nat.not_lt_zero q), fun q ht hq => absurd hq (Nat.not_lt_zero q)⟩
      have HW2 : Hid (w.heap.size ≤ W2.heap.size) := by have := (unhide F2).size; simp at this; unfold Hid; omega
      clear hQ hpc
      go_wp2_with fail
      clear y0 y1 y2 y3 y4 yl HYB2
      go_loopg [7, 8] NC (fun gg t7 t8 wr => ∃ (pc : Nat) (l : List Int), Hid (pc + gg = NC) ∧ t8 = .int .i64 (pc : Int) ∧ Hid (HsI f pc l) ∧ Hid (Gn W2 l t7 wr))
      case atStart => exact ⟨0, [], by unfold Hid; omega, rfl, H0, G0⟩
      case round =>
        clear hF G0 H0
        obtain ⟨pc, l, hpc, rfl, hH, hG⟩ := hrel
        obtain ⟨y0, y1, y2, y3, y4, yb, yl⟩ := tbox5 (unhide HSB _ (unhide hG).2.1)
        have HYB2 := hide yb
        clear yb
        by_cases hlt : pc < NC
        · have c1 : (pc : Int) < (NC : Int) := by omega
          have c2 : pc < 2000 := by have := unhide HNm; omega
          have c0 : (0 : Int) ≤ (pc : Int) := by omega
          obtain ⟨⟨op, a⟩, hi⟩ : ∃ q, f.code[pc]? = some q := ⟨_, List.getElem?_eq_getElem (by rw [unhide hNC]; exact hlt)⟩
          have HIC := hide hi
          obtain ⟨cb', co', cc', ecv', _, _, lc, hc⟩ := unhide HCode pc op a hi
          obtain ⟨rfl, rfl⟩ : cb = cb' ∧ co = co' := by
            injection ecv' with q _ _
            injection q with q
            injection q with q1 q2 _
            exact ⟨q1, q2⟩
          have k0 := ((unhide HYB2).cell (p := ⟨cb, co + pc * 2 + 0, none⟩) lc).trans (hc 0 _ rfl)
          rw [Nat.add_zero] at k0
          have lcr : cb < wr.heap.size := Nat.lt_of_lt_of_le lc (unhide HYB2).size
          have HH := hide (unhide HHt wr g pc L (unhide HTB _ (unhide hG).2.1) (unhide HM) hlt)
          have n1 : IntKind.i64.wrap ((NC : Int) - 1) = (NC : Int) - 1 := by rw [IntKind.wrap_i64]; have := unhide HNm; omega
          have HEn := hide (fun w => dEnds_any w op)
          obtain ⟨en, hen⟩ : ∃ b, Hid (enB op = b) := ⟨_, rfl⟩
          rw [unhide hen] at HEn
          have hHl : Hid (l.length = pc) := (unhide hH).len
          have hll : l.length < 2000 := by rw [unhide hHl]; exact c2
          obtain ⟨va, vc, ev, _, _⟩ := (unhide hG).1.shape
          subst ev
          clear hi hc ecv' lc
          go_wp2_with fail
          refine (unhide HH).mono ?_
          rintro e w4 ⟨z, rfl, hz, rfl⟩
          clear HH
          rcases hz with ⟨rfl, hno⟩ | ⟨z0, z1, hm⟩
          · have HR : Hid (FnR f none (pc : Int) 10) := .inr (.inl ⟨rfl, rfl, unhide HQA, pc, rfl, ⟨op, a, unhide HIC, .inl hno⟩, (unhide hH).un⟩)
            by_cases hls : (pc : Int) = (NC : Int) - 1
            · have e1 : ((pc : Int) == (NC : Int) - 1) = true := by simpa using hls
              clear hls hno
              go_wp2_with fail
              go_ret3
              exact ⟨_, none, _, _, rfl, unhide HR, fun _ => rfl, fun l hl => (by cases hl), unhide HYB2⟩
            · have e1 : ((pc : Int) == (NC : Int) - 1) = false := by simpa using hls
              clear hls hno
              go_wp2_with fail
              go_ret3
              exact ⟨_, none, _, _, rfl, unhide HR, fun _ => rfl, fun l hl => (by cases hl), unhide HYB2⟩
          · have HMz := hide hm
            have z2 : ¬ z < 0 := by omega
            clear hm
            by_cases hls : (pc : Int) = (NC : Int) - 1
            · have e1 : ((pc : Int) == (NC : Int) - 1) = true := by simpa using hls
              have hlast : Hid (pc + 1 = f.code.length) := by unfold Hid; rw [unhide hNC]; omega
              clear hls
              cases en with
              | false =>
                have HR : Hid (FnR f none (pc : Int) 10) := .inr (.inl ⟨rfl, rfl, unhide HQA, pc, rfl, ⟨op, a, unhide HIC, .inr ⟨unhide hlast, unhide hen⟩⟩, (unhide hH).un⟩)
                go_wp2_with fail
                refine (unhide HEn _).mono ?_
                rintro e w5 ⟨rfl, rfl⟩
                go_wp2_with fail
                go_ret3
                exact ⟨_, none, _, _, rfl, unhide HR, fun _ => rfl, fun l hl => (by cases hl), unhide HYB2⟩
              | true =>
                have HH2 := hide ((unhide hH).push (unhide HQA) (unhide HIC) (unhide HMz) (fun _ => unhide hen))
                go_wp2_with fail
                refine (unhide HEn _).mono ?_
                rintro e w5 ⟨rfl, rfl⟩
                go_wp2_with (first | (at_builtin; refine wpList_appN rfl _ _ rfl (.slice va l.length vc) l rfl ((unhide hG).1.keep (fun g hg => Below.heap_alloc _ _ _ ((unhide hG).1.lt g hg))) ⟨w5.heap.size, 0, none⟩ 1 z rfl (new_cells w5 #[.int .i64 z] 3) (by omega) ?_; intro v6 w6 hr6 hg6 hat6; have G2 := hide ((unhide hG).push (p := z) hr6 rfl hg6 hat6); clear hr6 hg6 hat6))
                go_roundg (gk - 1)
                case measure => have := unhide hpc; omega
                case rel => exact ⟨pc + 1, _, by have := unhide hpc; unfold Hid; omega, by go_num, HH2, G2⟩
            · have e1 : ((pc : Int) == (NC : Int) - 1) = false := by simpa using hls
              have HH2 := hide ((unhide hH).push (unhide HQA) (unhide HIC) (unhide HMz) (fun q => absurd q (by rw [unhide hNC]; omega)))
              clear hls
              go_wp2_with (first | (at_builtin; refine wpList_appN rfl _ _ rfl (.slice va l.length vc) l rfl ((unhide hG).1.keep (fun g hg => Below.heap_alloc _ _ _ ((unhide hG).1.lt g hg))) ⟨w4.heap.size, 0, none⟩ 1 z rfl (new_cells w4 #[.int .i64 z] 3) (by omega) ?_; intro v6 w6 hr6 hg6 hat6; have G2 := hide ((unhide hG).push (p := z) hr6 rfl hg6 hat6); clear hr6 hg6 hat6))
              go_roundg (gk - 1)
              case measure => have := unhide hpc; omega
              case rel => exact ⟨pc + 1, _, by have := unhide hpc; unfold Hid; omega, by go_num, HH2, G2⟩
        · have c1 : ¬ (pc : Int) < (NC : Int) := by omega
          have hpn : pc = f.code.length := by rw [unhide hNC]; have := unhide hpc; omega
          have HR : Hid (FnR f (some l) 0 0) := by have q := unhide hH; rw [hpn] at q; exact q.all (unhide HOF) (unhide HQA)
          clear hpn
          obtain ⟨va, vc, ev, _, _⟩ := (unhide hG).1.shape
          subst ev
          have HO : Hid (∀ k, (Value.slice va l.length vc).ownBlock = some k → w.heap.size ≤ k) := fun k hk => Nat.le_trans (unhide HW2) ((unhide hG).2.2 k hk)
          go_wp2_with fail
          go_ret3
          exact ⟨_, some l, _, _, rfl, unhide HR, fun h => (by cases h), fun l' hl' => (by cases hl'; exact ⟨(unhide hG).1, unhide HO⟩), unhide HYB2⟩

set_option linter.unusedVariables false
set_option linter.unusedSimpArgs false
theorem mxl_take1 {l : List Int} {x : Int} (h : l[0]? = some x) : mxl (l.take 1) = x := by
  cases l with
  | nil => simp at h
  | cons y r => simp at h; subst h; rfl
set_option maxRecDepth 100000 in
set_option maxHeartbeats 3200000 in
theorem most_any {w : World} {v : Value} {l : List Int} (h : Rn w v l) (h0 : 0 < l.length) (hge : ∀ x ∈ l, 0 ≤ x) :
    Calls Tryz.prog 57 #[v] w fun e w' => e = .returned (.int .i64 (mxl l)) ∧ w' = w := by
  have HU := hide (fun i p (hp : l[i]? = some p) => h.at hp)
  obtain ⟨ua, uc, rfl, _, um⟩ := h.shape
  obtain ⟨N, hN⟩ : ∃ L, Hid (l.length = L) := ⟨_, rfl⟩
  have hNm : N ≤ maxLen := by rw [← unhide hN]; omega
  unfold maxLen at hNm
  have HGE := hide hge
  have HN0 : Hid (0 < N) := by rw [← unhide hN]; exact h0
  rw [unhide hN] at HU ⊢
  clear h um h0 hge
  go_enter Tryz.func57, Tryz.ntmps57
  go_wp2_with fail
  go_loopg [3, 4] N (fun gg t3 t4 wr => ∃ (i : Nat) (m : Int), Hid (i + gg = N) ∧ t4 = .int .i64 (i : Int) ∧ t3 = .int .i64 m ∧ wr = w ∧ Hid ((i = 0 ∧ m = 0) ∨ (0 < i ∧ m = mxl (l.take i) ∧ 0 ≤ m)))
  case atStart => exact ⟨0, 0, by unfold Hid; omega, rfl, rfl, rfl, .inl ⟨rfl, rfl⟩⟩
  case round =>
    obtain ⟨i, m, hi, rfl, rfl, hX, hm⟩ := hrel
    obtain rfl := hX.symm
    clear hX
    by_cases hlt : i < N
    · obtain ⟨x, hx⟩ : ∃ x, l[i]? = some x := ⟨_, List.getElem?_eq_getElem (by rw [unhide hN]; exact hlt)⟩
      obtain ⟨b, off, cap, e, lb, hc⟩ := unhide HU i x hx
      have e2 : ua = some ⟨b, off, none⟩ := by injection e
      subst e2
      have x0 := unhide HGE x (List.mem_of_getElem? hx)
      have i0 : (0 : Int) ≤ (i : Int) := by omega
      have i1 : (i : Int) < (N : Int) := by omega
      have HM : Hid (∀ m', m' = max m x → (0 < i + 1 ∧ m' = mxl (l.take (i + 1)) ∧ 0 ≤ m')) := fun m' e => by
        rcases unhide hm with ⟨rfl, rfl⟩ | ⟨h1, h2, h3⟩
        · refine ⟨by omega, ?_, by omega⟩
          rw [mxl_take1 hx, e]; omega
        · refine ⟨by omega, ?_, by omega⟩
          rw [mxl_push h1 hx, ← h2, e]
      clear hx e
      by_cases hgt : m < x
      · have HM2 := hide (unhide HM x (by omega))
        go_wp2_with fail
        go_roundg (gk - 1)
        case measure => have := unhide hi; omega
        case rel => exact ⟨i + 1, x, by have := unhide hi; unfold Hid; omega, by go_num, rfl, rfl, .inr (unhide HM2)⟩
      · have HM2 := hide (unhide HM m (by omega))
        go_wp2_with fail
        go_roundg (gk - 1)
        case measure => have := unhide hi; omega
        case rel => exact ⟨i + 1, m, by have := unhide hi; unfold Hid; omega, by go_num, rfl, rfl, .inr (unhide HM2)⟩
    · have hiN : i = N := by have := unhide hi; omega
      have i1 : ¬ (i : Int) < (N : Int) := by omega
      have HE : Hid (m = mxl l) := by
        rcases unhide hm with ⟨h1, _⟩ | ⟨_, h2, _⟩
        · have := unhide HN0; omega
        · unfold Hid; rw [h2, hiN, List.take_of_length_le (by rw [unhide hN]; exact Nat.le_refl _)]
      clear hiN
      go_wp2_with fail
      go_ret
      exact ⟨by rw [← unhide HE]; rfl, rfl⟩
set_option maxRecDepth 100000 in
set_option maxHeartbeats 6400000 in
theorem tprogram_any {w : World} {pv : Value} {p : Pg} (hp : PgV w pv p) (hC : p.consts.length ≤ 9000000000000) (hokr : ∀ (i : Nat) (f : Fc), p.funcs[i]? = some f → f.code.length ≤ 9000000000000 ∧ f.name.size ≤ 9223372036854775807 ∧ ∀ q ∈ f.code, I64 q.2) :
    Calls Tryz.prog 23 #[pv] w fun e w' => ∃ fa L k a er, e = .returned (.tuple #[fa, .agg #[.int .i64 k, .int .i64 a], .int .i64 er]) ∧ VpR p L k a er ∧ Below w.heap.size w w' ∧ (L = none → fa = .agg #[.slice none 0 0, .slice none 0 0]) ∧ ∀ Ls, L = some Ls → ∃ hv mv, fa = .agg #[hv, mv] ∧ FcR w.heap.size w' hv mv Ls := by
  have HPV := hide hp
  obtain ⟨cv, fv, rfl, hc, hf⟩ := hp
  obtain ⟨_, ca, ccap, rfl, _, _, _⟩ := hc
  have HFS := hide hf
  obtain ⟨fa, fcap, rfl, hfl, hfm, hat⟩ := hf.at
  obtain ⟨NC, hNC⟩ : ∃ n, Hid (p.consts.length = n) := ⟨_, rfl⟩
  obtain ⟨NF, hNF⟩ : ∃ n, Hid (p.funcs.length = n) := ⟨_, rfl⟩
  rw [unhide hNF] at hfl
  unfold maxLen at hfm
  rw [unhide hNC, unhide hNF] at HPV
  rw [unhide hNC, unhide hNF]
  obtain ⟨W3, eW3⟩ : ∃ W3, W3 = (((w.alloc (.cells #[.slice ca NC ccap, .slice fa NF fcap] 25)).alloc (.cells #[.slice none 0 0, .slice none 0 0] 57)).alloc (.cells #[.int .i64 0, .int .i64 0] 46)).alloc (.cells #[.slice none 0 0, .slice none 0 0] 57) := ⟨_, rfl⟩
  have t4 : Below w.heap.size w W3 := by rw [eW3]; exact ((((Below.refl _ w).alloc (Nat.le_refl _) _).alloc (by simp only [World.size_alloc]; omega) _).alloc (by simp only [World.size_alloc]; omega) _).alloc (by simp only [World.size_alloc]; omega) _
  have t5 : W3.heap.size = w.heap.size + 4 := by rw [eW3]; simp
  have hb0 : W3.cell? ⟨w.heap.size, 0, none⟩ = some (.slice ca NC ccap) := by
    have n0 := new_cells w #[.slice ca NC ccap, .slice fa NF fcap] 25 0 _ rfl
    rw [Go.WideShapes.add_plain] at n0
    rw [eW3]; exact (((((Below.refl (w.heap.size + 1) (w.alloc (.cells #[.slice ca NC ccap, .slice fa NF fcap] 25))).alloc (by simp) _).alloc (by simp) _).alloc (by simp) _).cell (p := ⟨w.heap.size, 0, none⟩) (by simp)).trans n0
  have hb1 : W3.cell? ⟨w.heap.size, 1, none⟩ = some (.slice fa NF fcap) := by
    have n0 := new_cells w #[.slice ca NC ccap, .slice fa NF fcap] 25 1 _ rfl
    rw [Go.WideShapes.add_plain] at n0
    rw [eW3]; exact (((((Below.refl (w.heap.size + 1) (w.alloc (.cells #[.slice ca NC ccap, .slice fa NF fcap] 25))).alloc (by simp) _).alloc (by simp) _).alloc (by simp) _).cell (p := ⟨w.heap.size, 1, none⟩) (by simp)).trans n0
  have HC := hide (rCheck_any ((unhide HPV).below t4 (Nat.le_refl _)) hC hokr)
  have HB3 := hide t4
  have HAT := hide hat
  clear t4 hat hf hC hokr hb0 hb1
  go_enter Tryz.func23, Tryz.ntmps23
  go_wp2_with fail
  rw [← eW3]
  refine (unhide HC).mono ?_
  rintro e W4 ⟨rfl, hb4⟩
  obtain ⟨W3a, eW3a⟩ : ∃ x, x = ((w.alloc (.cells #[.slice ca NC ccap, .slice fa NF fcap] 25)).alloc (.cells #[.slice none 0 0, .slice none 0 0] 57)).alloc (.cells #[.int .i64 0, .int .i64 0] 46) := ⟨_, rfl⟩
  rw [← eW3a] at eW3
  have r2a : Ro W3a 2 (.slice (some ⟨w.heap.size + 1, 0, none⟩) 1 1) 1 [.slice none 0 0, .slice none 0 0] := by
    rw [eW3a]; exact (B2.new' (w.alloc (.cells #[.slice ca NC ccap, .slice fa NF fcap] 25)) _ _ _ (by simp)).fr (S := fun _ => False) ((Fr.refl _ _).alloc _) (fun _ _ e => e)
  have r3a : Ro W3a 2 (.slice (some ⟨w.heap.size + 1 + 1, 0, none⟩) 1 1) 1 [.int .i64 0, .int .i64 0] := by
    rw [eW3a]; exact B2.new' _ _ _ _ (by simp)
  have r1a : Ro W3a 2 (.slice (some ⟨w.heap.size, 0, none⟩) 1 1) 1 [.slice ca NC ccap, .slice fa NF fcap] := by
    rw [eW3a]; exact ((B2.new w _ _ _).fr (S := fun _ => False) ((Fr.refl _ _).alloc _) (fun _ _ e => e)).fr (S := fun _ => False) ((Fr.refl _ _).alloc _) (fun _ _ e => e)
  have fA : Fr (fun _ => False) W3a W3 := by rw [eW3]; exact (Fr.refl _ _).alloc _
  have r1 := r1a.fr fA (fun _ _ e => e)
  have r2 := r2a.fr fA (fun _ _ e => e)
  have r3 := r3a.fr fA (fun _ _ e => e)
  have rn : Ro W3 2 (.slice (some ⟨w.heap.size + 1 + 1 + 1, 0, none⟩) 1 1) 1 [.slice none 0 0, .slice none 0 0] := by
    rw [eW3]; exact B2.new' W3a _ _ _ (by rw [eW3a]; simp)
  have R1 := hide (r1.keep (fun g hg => hb4.block g (r1.lt g hg)))
  have R2 := hide (r2.keep (fun g hg => hb4.block g (r2.lt g hg)))
  have R3 := hide (r3.keep (fun g hg => hb4.block g (r3.lt g hg)))
  have RN := hide (rn.keep (fun g hg => hb4.block g (rn.lt g hg)))
  have HB4 : Hid (Below w.heap.size w W4) := (unhide HB3).trans (hb4.mono (unhide HB3).size)
  have hs4 := hb4.size
  rw [t5] at hs4
  clear r1 r2 r3 rn r1a r2a r3a fA hb4 HC eW3 eW3a
  cases hck : ckF p with
  | some o =>
    obtain ⟨k, a, y⟩ := o
    have hy := vckF_ne hck
    have HV : Hid (VpR p none k a y) := .inl ⟨y, hck, rfl, rfl, hy⟩
    obtain ⟨W5, eW5⟩ : ∃ W5, W5 = W4.alloc (.cells #[.int .i64 k, .int .i64 a] 46) := ⟨_, rfl⟩
    have f5 : Fr (fun _ => False) W4 W5 := by rw [eW5]; exact (Fr.refl _ _).alloc _
    have q5 : Ro W5 2 (.slice (some ⟨W4.heap.size, 0, none⟩) 1 1) 1 [.int .i64 k, .int .i64 a] := by rw [eW5]; exact B2.new _ _ _ _
    have q2 := (unhide R2).fr f5 (fun _ _ e => e)
    have q3 := (unhide R3).fr f5 (fun _ _ e => e)
    have qn := (unhide RN).fr f5 (fun _ _ e => e)
    have HB5 : Hid (Below w.heap.size w W5) := (unhide HB4).trans (f5.below (unhide HB4).size (fun _ _ e => e))
    obtain ⟨g0, g1⟩ := B2.cells q5
    obtain ⟨m0, m1⟩ := B2.cells q2
    obtain ⟨n0, n1⟩ := B2.cells q3
    obtain ⟨e0, e1⟩ := B2.cells qn
    have ln := World.block_lt_of_cell? _ _ e0
    have b14 := (B2.cells (unhide R1)).2
    have z20 := q2.free rfl 0
    have z21 := q2.free rfl 1
    have z30 := q3.free rfl 0
    have z31 := q3.free rfl 1
    have l5 := World.block_lt_of_cell? _ _ g0
    have l2 := World.block_lt_of_cell? _ _ m0
    have l3 := World.block_lt_of_cell? _ _ n0
    have d2 : Hid (¬ W4.heap.size = w.heap.size + 1) := by unfold Hid; omega
    have d3 : Hid (¬ W4.heap.size = w.heap.size + 1 + 1) := by unfold Hid; omega
    have hyb : (y == 0) = false := by simpa using hy
    have Q2 := hide q2
    have Q3 := hide q3
    have hSt1 : Fr (fun k => k = w.heap.size + 1 ∨ k = w.heap.size + 1 + 1) W5 (W5.drew.setCells (w.heap.size + 1) 0 [.slice none 0 0, .slice none 0 0]) := (Fr.refl (fun k => k = w.heap.size + 1 ∨ k = w.heap.size + 1 + 1) W5).drew.step (setcells_fr _ _ _ _) (fun _ _ e => .inl e)
    have hSt2 : Fr (fun k => k = w.heap.size + 1 ∨ k = w.heap.size + 1 + 1) W5 ((W5.drew.setCells (w.heap.size + 1) 0 [.slice none 0 0, .slice none 0 0]).setCells (w.heap.size + 1 + 1) 0 [.int .i64 k, .int .i64 a]) := hSt1.step (setcells_fr _ _ _ _) (fun _ _ e => .inr e)
    clear f5 q5 q2 q3 qn hck HFS HAT b14
    simp only [rsV]
    go_wp2_with fail
    rw [← eW5]
    clear eW5
    refine wp_region_held_drew (S := (fun wx => Fr (fun k => k = w.heap.size + 1 ∨ k = w.heap.size + 1 + 1) W5 wx)) (by kernel_rfl) ((Fr.refl _ W5).drew) (fun hHeld => ?_)
    refine wpAnyH_take (i := 0) (oi := _) (v := .agg #[.slice none 0 0, .slice none 0 0]) rfl (by kernel_rfl) (by kernel_rfl) (by kernel_rfl) (fun _ _ _ h => h) (Or.inl ⟨by rfl, (by intro wz hSw; have q0 := (hSw.cell (a := ⟨w.heap.size + 1 + 1 + 1, 0, none⟩) ln (fun e => e.elim (fun q => by have q2 : w.heap.size + 1 + 1 + 1 = w.heap.size + 1 := q; omega) (fun q => by have q2 : w.heap.size + 1 + 1 + 1 = w.heap.size + 1 + 1 := q; omega))).trans e0; have q1 := (hSw.cell (a := ⟨w.heap.size + 1 + 1 + 1, 1, none⟩) ln (fun e => e.elim (fun q => by have q2 : w.heap.size + 1 + 1 + 1 = w.heap.size + 1 := q; omega) (fun q => by have q2 : w.heap.size + 1 + 1 + 1 = w.heap.size + 1 + 1 := q; omega))).trans e1; have l52 := Nat.lt_of_lt_of_le ln hSw.size; go_simp)⟩) (by assumption) ?_
    go_simp
    refine wpAnyH_take (i := 1) (oi := _) (v := .agg #[.int .i64 k, .int .i64 a]) rfl (by kernel_rfl) (by kernel_rfl) (by kernel_rfl) (fun _ _ _ h => h) (Or.inl ⟨by rfl, (by intro wz hSw; have q0 := (hSw.cell (a := ⟨W4.heap.size, 0, none⟩) l5 (fun e => e.elim (fun q => unhide d2 q) (fun q => unhide d3 q))).trans g0; have q1 := (hSw.cell (a := ⟨W4.heap.size, 1, none⟩) l5 (fun e => e.elim (fun q => unhide d2 q) (fun q => unhide d3 q))).trans g1; have l52 := Nat.lt_of_lt_of_le l5 hSw.size; go_simp)⟩) (by assumption) ?_
    go_simp
    refine wpAnyH_take (i := 2) (oi := _) (v := .int .i64 y) rfl (by kernel_rfl) (by kernel_rfl) (by kernel_rfl) (fun _ _ _ h => h) (Or.inl ⟨by rfl, (by intro wz hSw; go_simp)⟩) (by assumption) ?_
    go_simp
    refine wpAnyH_ready (rs := [3]) (by kernel_rfl) (by simp) ?_
    refine AllReadyH.cons (o := _) rfl (fun K hK => ?_) AllReadyH.nil
    go_simp
    refine hK.out _ _ (hSt1) (fun hHeld3x => ?_)
    clear hK K
    refine wpAnyH_ready (rs := [4]) (by kernel_rfl) (by simp) ?_
    refine AllReadyH.cons (o := _) rfl (fun K hK => ?_) AllReadyH.nil
    go_simp
    refine hK.out _ _ (hSt2) (fun hHeld4x => ?_)
    clear hK K
    refine wpAnyH_take (i := 5) (oi := _) (v := .int .i64 y) rfl (by kernel_rfl) (by kernel_rfl) (by kernel_rfl) (fun _ _ _ h => h) (Or.inl ⟨by rfl, (by intro wz hSw; go_simp)⟩) (by assumption) ?_
    go_simp
    refine wpAnyH_done (by kernel_rfl) ?_ _
    obtain ⟨WE, eWE⟩ : ∃ WE, WE = ((W5.setCells (w.heap.size + 1) 0 [.slice none 0 0, .slice none 0 0]).setCells (w.heap.size + 1 + 1) 0 [.int .i64 k, .int .i64 a]).drew := ⟨_, rfl⟩
    change Exit.then _ _ _ _ (((W5.setCells (w.heap.size + 1) 0 [.slice none 0 0, .slice none 0 0]).setCells (w.heap.size + 1 + 1) 0 [.int .i64 k, .int .i64 a]).drew)
    obtain ⟨E2, E3, BE⟩ := two_put (unhide Q2) (unhide Q3) (by omega) (unhide HB5) (by omega) (by omega) (.slice none 0 0) (.slice none 0 0) (.int .i64 k) (.int .i64 a)
    rw [← eWE] at E2 E3 BE ⊢
    have HE2 := hide E2
    have HE3 := hide E3
    clear eWE E2 E3 hSt1 hSt2 g0 g1 m0 m1 n0 n1 e0 e1 ln z20 z21 z30 z31 l5 l2 l3 hHeld
    go_wp2_with fail
    (try simp only [Exit.inBlock, Exit.then])
    refine bodyPost_ret (results_mix rfl _ _ _ rfl rfl (load30 (unhide HE2)) (load32 (unhide HE3))) rfl ?_
    exact ⟨_, none, _, _, _, rfl, unhide HV, BE, fun _ => rfl, fun Ls e => by cases e⟩
  | none =>
    obtain ⟨W5, eW5⟩ : ∃ W5, W5 = W4.alloc (.cells #[.int .i64 0, .int .i64 0] 46) := ⟨_, rfl⟩
    have f5 : Fr (fun _ => False) W4 W5 := by rw [eW5]; exact (Fr.refl _ _).alloc _
    have hFS := FS.first W5
    obtain ⟨W6, eW6⟩ : ∃ W6, W6 = W5.alloc (.cells #[.slice none 0 0, .slice none 0 0] 57) := ⟨_, rfl⟩
    obtain ⟨qb, eqb⟩ : ∃ qb, qb = W5.heap.size := ⟨_, rfl⟩
    rw [← eW6, ← eqb] at hFS
    have q1 := (unhide R1).fr f5 (fun _ _ e => e)
    have q2 := (unhide R2).fr f5 (fun _ _ e => e)
    have q3 := (unhide R3).fr f5 (fun _ _ e => e)
    have qn := (unhide RN).fr f5 (fun _ _ e => e)
    have hs5 : W5.heap.size = W4.heap.size + 1 := by rw [eW5]; simp
    have HB5 : Hid (Below w.heap.size w W5) := (unhide HB4).trans (f5.below (unhide HB4).size (fun _ _ e => e))
    have Q1 := hide q1
    have Q2 := hide q2
    have Q3 := hide q3
    have QN := hide qn
    have HFS6 := hide hFS
    have b1 := hFS.bl.cell (p := ⟨w.heap.size, 1, none⟩) (q1.lt _ rfl) |>.trans (B2.cells q1).2
    have lb1 := World.block_lt_of_cell? _ _ b1
    have b14 := (B2.cells (unhide R1)).2
    have lb14 := World.block_lt_of_cell? _ _ b14
    have HCK := hide hck
    have hNFm : NF ≤ 128 := by rw [← unhide hNF]; exact (ckF_none.1 hck).2.2.1
    clear f5 q1 q2 q3 qn hFS hck R1 R2 R3 RN
    simp only [rsV]
    rw [eW5] at eqb eW6
    simp only [World.size_alloc] at eqb
    go_wp2_with fail
    rw [← eqb, ← eW6]
    clear b14 lb14 eW5 eqb eW6 b1 lb1
    go_loopg [9] NF (fun gg t26 wi => ∃ (i : Nat), Hid (i + gg = NF) ∧ t26 = .int .i64 (i : Int) ∧ Hid (∃ hv mv vs L, FS W5 qb hv mv vs L L wi ∧ L.length = i ∧ ∀ (j : Nat) (f : Fc) (l : List Int), p.funcs[j]? = some f → L[j]? = some l → FnR f (some l) 0 0))
    case atStart => exact ⟨0, by unfold Hid; omega, rfl, _, _, _, _, unhide HFS6, rfl, fun j f l _ h => by simp at h⟩
    case round =>
      obtain ⟨i, hi, rfl, hF⟩ := hrel
      obtain ⟨hv, mv, vs, L, hF1, hL, hFn⟩ := unhide hF
      have HF1 := hide hF1
      have HLL := hide hL
      have HFN := hide hFn
      have hB5w : Below W5.heap.size W5 wr := hF1.bl
      have HBW : Hid (Below w.heap.size w wr) := (unhide HB5).trans (hB5w.mono (unhide HB5).size)
      have i0 : (0 : Int) ≤ (i : Int) := by omega
      clear hF hF1 hL hFn HFS6
      by_cases hlt : i < NF
      · have i1 : (i : Int) < (NF : Int) := by omega
        obtain ⟨f, hf⟩ : ∃ f, p.funcs[i]? = some f := ⟨_, List.getElem?_eq_getElem (by rw [unhide hNF]; exact hlt)⟩
        obtain ⟨b, off, x, rfl, hb, hx, cs⟩ := unhide HAT i f hf
        have k0 := (unhide HBW).cell (p := ⟨b, off + i * 5 + 0, none⟩) hb |>.trans (cs 0 _ rfl)
        have k1 := (unhide HBW).cell (p := ⟨b, off + i * 5 + 1, none⟩) hb |>.trans (cs 1 _ rfl)
        have k2 := (unhide HBW).cell (p := ⟨b, off + i * 5 + 2, none⟩) hb |>.trans (cs 2 _ rfl)
        have k3 := (unhide HBW).cell (p := ⟨b, off + i * 5 + 3, none⟩) hb |>.trans (cs 3 _ rfl)
        have k4 := (unhide HBW).cell (p := ⟨b, off + i * 5 + 4, none⟩) hb |>.trans (cs 4 _ rfl)
        rw [Nat.add_zero] at k0
        have lk := World.block_lt_of_cell? _ _ k0
        have hok' := OkF.of (unhide HCK) hf
        have HFa := HF1
        have hBa := unhide HBW
        have HCF := hide (tfunction_any hok' (hx.below hBa (Nat.le_refl _)))
        have b1 := (B2.cells ((unhide Q1).keep (fun g hg => hB5w.block g ((unhide Q1).lt g hg)))).2
        have lb1 := World.block_lt_of_cell? _ _ b1
        obtain ⟨_, ca2, cc2, ecv, _, _, _⟩ := hx.2.2.2.1
        obtain ⟨_, ha2, hc2, ehv, _, _, _⟩ := hx.2.2.2.2
        have HI := hide hf
        have HN1 := hide hok'.n1
        obtain ⟨nm, pr, lc, cv', hv'⟩ := x
        simp only at ecv ehv k0 k1 k2 k3 k4 HCF
        subst ecv ehv
        have HFN2 := hide hok'
        clear cs hx hok' hBa hf hB5w
        go_wp2_with fail
        refine (unhide HCF).mono ?_
        rintro e Wb ⟨u, ht, pl, er, rfl, hR, hnone, hsome, hBb⟩
        clear b1 lb1
        have HFb := hide ((unhide HFa).keep hBb)
        have hbw : Below w.heap.size w Wb := (unhide HB5).trans ((unhide HFb).bl.mono (unhide HB5).size)
        have p2 := (unhide Q2).keep (fun g hg => (unhide HFb).bl.block g ((unhide Q2).lt g hg))
        have p3 := (unhide Q3).keep (fun g hg => (unhide HFb).bl.block g ((unhide Q3).lt g hg))
        have pn := (unhide QN).keep (fun g hg => (unhide HFb).bl.block g ((unhide QN).lt g hg))
        cases ht with
        | none =>
          have her : er ≠ 0 := by
            rcases hR with h | h | h
            · rw [h.1]; decide
            · rw [h.1]; decide
            · obtain ⟨_, h1, _⟩ := h.2.2.2.2; cases h1
          have HV : Hid (VpR p none (i : Int) pl er) := .inr (.inl ⟨unhide HCK, i, f, unhide HI, rfl, rfl, her, hR, fun j g hj hg => by
            have hl := unhide HLL
            exact ⟨_, unhide HFN j g _ hg (List.getElem?_eq_getElem (by omega))⟩⟩)
          have hu := hnone rfl
          subst hu
          have hyb : (er == 0) = false := by simpa using her
          obtain ⟨m0, m1⟩ := B2.cells p2
          obtain ⟨n0, n1⟩ := B2.cells p3
          obtain ⟨e0, e1⟩ := B2.cells pn
          have ln := World.block_lt_of_cell? _ _ e0
          have z20 := p2.free rfl 0
          have z21 := p2.free rfl 1
          have z30 := p3.free rfl 0
          have z31 := p3.free rfl 1
          have l2 := World.block_lt_of_cell? _ _ m0
          have l3 := World.block_lt_of_cell? _ _ n0
          obtain ⟨E2, E3, BE, _⟩ := two_put0 p2 p3 (by omega) hbw (by omega) (by omega) (.slice none 0 0) (.slice none 0 0) (.int .i64 (i : Int)) (.int .i64 pl)
          have HE2 := hide E2
          have HE3 := hide E3
          have HBE := hide BE
          clear hR hBb hnone hsome p2 p3 pn E2 E3 BE hbw k0 k1 k2 k3 k4 lk HCF HFa HFb
          go_wp2_with fail
          (try simp only [Exit.inBlock, Exit.then])
          refine bodyPost_ret (results_mix rfl _ _ _ rfl rfl (load30 (unhide HE2)) (load32 (unhide HE3))) rfl ?_
          exact ⟨_, none, _, _, _, rfl, unhide HV, unhide HBE, fun _ => rfl, fun Ls e => by cases e⟩
        | some l =>
          have HRR0 := hide hR
          have hz : er = 0 ∧ pl = 0 ∧ l.length = f.code.length := by
            rcases hR with h | h | h
            · cases h.2.1
            · cases h.2.1
            · obtain ⟨_, h1, h2, _⟩ := h.2.2.2.2; cases h1; exact ⟨h.1, h.2.1, h2⟩
          obtain ⟨rfl, rfl, hll⟩ := hz
          have HRR := HRR0
          clear HRR0
          obtain ⟨hu, huf⟩ := hsome l rfl
          obtain ⟨ua, uc, eu, _, _⟩ := hu.shape
          subst eu
          obtain ⟨ha, hcap, eh, _, _⟩ := (unhide HFb).hr.shape
          obtain ⟨ma, mc, em, _, _⟩ := (unhide HFb).mr.shape
          subst eh em
          obtain ⟨mn, hLn⟩ : ∃ mn, Hid (L.length = mn) := ⟨_, rfl⟩
          have hmb : mn < 1000 := by have := unhide HLL; rw [← unhide hLn]; omega
          have HFb : Hid (FS W5 qb (.slice ha mn hcap) (.slice ma mn mc) vs L L Wb) := by rw [← unhide hLn]; exact HFb
          have c0 := (unhide HFb).c0
          have fz0 := (unhide HFb).fz 0
          have lq := (unhide HFb).lt
          have hHR := (unhide HFb).hr
          have HHR : Hid (Ro (Wb.alloc (.cells #[.slice ua l.length uc] 55)) 1 (.slice ha mn hcap) mn vs) := by
            have := hHR.keep (w' := Wb.alloc (.cells #[.slice ua l.length uc] 55)) (fun g hg => Below.heap_alloc _ _ _ (hHR.lt g hg))
            rw [unhide hLn] at this
            exact this
          have huF : ∀ k, (Value.slice ua l.length uc).ownBlock = some k → W5.heap.size ≤ k ∧ k ≠ qb ∧ (Value.slice ha mn hcap).ownBlock ≠ some k ∧ (Value.slice ma mn mc).ownBlock ≠ some k := fun k hk => by
            have h1 := huf k hk
            have h2 := (unhide HFa).bl.size
            have h3 := (unhide HFa).lt
            exact ⟨by omega, by omega, fun e => by have := (unhide HFa).hr.lt k (by rw [unhide hLn]; exact e); omega, fun e => by have := (unhide HFa).mr.lt k (by rw [unhide hLn]; exact e); omega⟩
          have HU := hide hu
          have HUF := hide huF
          have HUQ : Hid (∀ (j : Nat) (v : Value) (k : Nat), vs[j]? = some v → v.ownBlock = some k → (Value.slice ua l.length uc).ownBlock ≠ some k) := fun j v k hv hk e => by
            have h1 := huf k e
            have h2 := (unhide HFa).rowlt hv hk
            omega
          have hn1 := unhide HN1
          have HN0 : Hid (0 < l.length) := by unfold Hid; omega
          have HGE : Hid (∀ x ∈ l, 0 ≤ x) := fun x hx => by
            obtain ⟨i, hi, rfl⟩ := List.getElem_of_mem hx
            rcases unhide HRR with h | h | h
            · cases h.2.1
            · cases h.2.1
            · obtain ⟨_, h1, _, h3⟩ := h.2.2.2.2
              cases h1
              exact (((h3 i _).1 (List.getElem?_eq_getElem hi)).bd (unhide HFN2)).2.2.1
          clear hR hBb hnone hsome p2 p3 pn hbw k0 k1 k2 k3 k4 lk HCF HFa hu huf huF hHR hll
          have HNC : Hid (∀ j u', [Value.slice ua l.length uc][j]? = some u' → (Wb.alloc (.cells #[.slice ua l.length uc] 55)).cell? ((⟨Wb.heap.size, 0, none⟩ : Addr).add j) = some u') := new_cells Wb #[.slice ua l.length uc] 55
          go_wp2_with (first | (at_builtin; refine wpList_appL rfl _ _ rfl (.slice ha mn hcap) mn vs rfl (unhide HHR) ⟨Wb.heap.size, 0, none⟩ 1 (.slice ua l.length uc) rfl rfl (unhide HNC) (by omega) ?_; intro v4 w4 hr4 hg4 hat4; obtain ⟨va4, vc4, ev4, _, _⟩ := hr4.shape; subst ev4; obtain ⟨y0, yz0, HF6⟩ := (unhide HFb).pushH (l := l) (unhide HU) (unhide HUF) (unhide HUQ) (by rw [unhide hLn]; exact hr4) hg4 (by simpa using hat4); have ly0 := World.block_lt_of_cell? _ _ y0; clear hr4 hg4 hat4))
          obtain ⟨W7, eW7⟩ : ∃ W7, W7 = w4.setCell ⟨qb, 0, none⟩ (.slice va4 (mn + 1) vc4) := ⟨_, rfl⟩
          rw [← eW7] at HF6 ⊢
          obtain ⟨m, hm⟩ : ∃ m, Hid (mxl l = m) := ⟨_, rfl⟩
          have hln2 : L.length + 1 = mn + 1 := by rw [unhide hLn]
          have HF7 := hide ((unhide HF6).keep (Go.Proofs.YtlogmdldjmkkjaaGreatDoor.Below.drewN (Below.refl _ W7) 1))
          have hul := (unhide HF6).el mn l (.slice ua l.length uc) (by rw [← unhide hLn]; simp) (by have := (unhide HFb).hr.1; rw [Nat.mul_one, unhide hLn] at this; rw [← this]; simp)
          have HMX := hide (most_any (w := W7.drew) (Rx.of_ro (hul.1.fr (S := fun _ => False) (Fr.refl _ W7).drew (fun _ _ e => e))) (unhide HN0) (unhide HGE))
          rw [unhide hm] at HMX
          have hMR := (unhide HF7).mr
          have HMR : Hid (Ro (W7.drew.alloc (.cells #[.int .i64 m] 3)) 1 (.slice ma mn mc) mn (flt enN (L.map mxl))) := by
            have := hMR.keep (w' := W7.drew.alloc (.cells #[.int .i64 m] 3)) (fun g hg => Below.heap_alloc _ _ _ (hMR.lt g hg))
            rw [unhide hLn] at this
            exact this
          have c1 := (unhide HF6).c1
          have lq7 := World.block_lt_of_cell? _ _ c1
          clear eW7 y0 yz0 ly0 c0 fz0 lq hul hMR hln2 HHR HNC HU HUF HFb
          go_wp2_with fail
          refine wp_region_held_drew (S := (fun wx => True)) (by kernel_rfl) (trivial) (fun hHeld => ?_)
          refine wpAnyH_take (i := 0) (oi := _) (v := .pointer (some ⟨qb, 1, none⟩)) rfl (by kernel_rfl) (by kernel_rfl) (by kernel_rfl) (fun _ _ _ h => h) (Or.inl ⟨by rfl, (by intro wz hSw; go_simp)⟩) (by assumption) ?_
          go_simp
          refine wpAnyH_take (i := 2) (oi := _) (v := .slice ua l.length uc) rfl (by kernel_rfl) (by kernel_rfl) (by kernel_rfl) (fun _ _ _ h => h) (Or.inl ⟨by rfl, (by intro wz hSw; go_simp)⟩) (by assumption) ?_
          go_simp
          refine wpAnyH_ready (rs := [1, 3]) (by kernel_rfl) (by simp) ?_
          refine AllReadyH.cons (o := _) rfl (fun K hK => ?_) (AllReadyH.cons (o := _) rfl (fun K hK => ?_) AllReadyH.nil)
          · go_simp
            refine hK.out _ _ (trivial) (fun hHeld1x => ?_)
            clear hK K
            go_simp
            refine wpAnyH_ready (rs := [3]) (by kernel_rfl) (by simp) ?_
            refine AllReadyH.cons (o := _) rfl (fun K hK => ?_) AllReadyH.nil
            go_simp
            refine (unhide HMX).mono ?_
            rintro e Wm ⟨rfl, eWm⟩
            subst eWm
            refine hK.out _ _ (trivial) (fun hHeld3x => ?_)
            clear hK K
            go_simp
            refine wpAnyH_ready (rs := [4]) (by kernel_rfl) (by simp) ?_
            refine AllReadyH.cons (o := _) rfl (fun K hK => ?_) AllReadyH.nil
            go_simp
            refine hK.out _ _ (trivial) (fun hHeld4x => ?_)
            clear hK K
            go_simp
            refine wpAnyH_ready (rs := [5]) (by kernel_rfl) (by simp) ?_
            refine AllReadyH.cons (o := _) rfl (fun K hK => ?_) AllReadyH.nil
            refine step_appM rfl _ _ rfl (.slice ma mn mc) mn (flt enN (L.map mxl)) rfl (unhide HMR) ⟨W7.heap.size, 0, none⟩ 1 m rfl (by exact new_cells W7.drew #[_] 3) (by omega) ?_
            intro v5 w5 hr5 hg5 hat5
            obtain ⟨va5, vc5, ev5, _, _⟩ := hr5.shape
            subst ev5
            obtain ⟨y1, yz, HF8⟩ := (unhide HF7).pushM (l := l) (by rw [unhide hLn, unhide hm]; exact hr5) hg5 (by simpa using hat5)
            have ly := World.block_lt_of_cell? _ _ y1
            clear hr5 hg5 hat5
            refine hK.out _ _ (trivial) (fun hHeld5x => ?_)
            clear hK K
            go_simp
            refine wpAnyH_take (i := 6) (oi := _) (v := .pointer (some ⟨qb, 1, none⟩)) rfl (by kernel_rfl) (by kernel_rfl) (by kernel_rfl) (fun _ _ _ h => h) (Or.inl ⟨by rfl, (by intro wz hSw; go_simp)⟩) (by assumption) ?_
            go_simp
            refine wpAnyH_ready (rs := [7]) (by kernel_rfl) (by simp) ?_
            refine AllReadyH.cons (o := _) rfl (fun K hK => ?_) AllReadyH.nil
            go_simp
            refine hK.out _ _ (trivial) (fun hHeld7x => ?_)
            clear hK K
            refine wpAnyH_done (by kernel_rfl) ?_ _
            clear y1 yz ly
            obtain ⟨W9, eW9⟩ : ∃ W9, W9 = w5.setCell ⟨qb, 1, none⟩ (.slice va5 (mn + 1) vc5) := ⟨_, rfl⟩
            rw [← eW9] at HF8 ⊢
            have HR : Hid (∃ hv mv vs L, FS W5 qb hv mv vs L L W9 ∧ L.length = i + 1 ∧ ∀ (j : Nat) (f : Fc) (l : List Int), p.funcs[j]? = some f → L[j]? = some l → FnR f (some l) 0 0) := by
              refine ⟨_, _, _, L ++ [l], unhide HF8, by rw [List.length_append, unhide HLL]; rfl, fun j f' l' hf' hl' => ?_⟩
              have hln := unhide HLL
              by_cases hj : j < i
              · rw [List.getElem?_append_left (by omega)] at hl'
                exact unhide HFN j f' l' hf' hl'
              · rw [List.getElem?_append_right (by omega)] at hl'
                have e1 : j - L.length = 0 := by
                  have := (List.getElem?_eq_some_iff.1 hl').1
                  simp at this; omega
                rw [e1] at hl'
                simp at hl'
                subst hl'
                have e2 : j = i := by omega
                subst e2
                rw [unhide HI] at hf'
                cases hf'
                exact unhide HRR
            clear eW9
            go_wp2_with fail
            go_roundg (gk - 1)
            case measure => have := unhide hi; omega
            case rel => exact ⟨i + 1, by have := unhide hi; unfold Hid; omega, by go_num, HR⟩
          · go_simp
            refine (unhide HMX).mono ?_
            rintro e Wm ⟨rfl, eWm⟩
            subst eWm
            refine hK.out _ _ (trivial) (fun hHeld3x => ?_)
            clear hK K
            go_simp
            refine wpAnyH_ready (rs := [1, 4]) (by kernel_rfl) (by simp) ?_
            refine AllReadyH.cons (o := _) rfl (fun K hK => ?_) (AllReadyH.cons (o := _) rfl (fun K hK => ?_) AllReadyH.nil)
            · go_simp
              refine hK.out _ _ (trivial) (fun hHeld1x => ?_)
              clear hK K
              go_simp
              refine wpAnyH_ready (rs := [4]) (by kernel_rfl) (by simp) ?_
              refine AllReadyH.cons (o := _) rfl (fun K hK => ?_) AllReadyH.nil
              go_simp
              refine hK.out _ _ (trivial) (fun hHeld4x => ?_)
              clear hK K
              go_simp
              refine wpAnyH_ready (rs := [5]) (by kernel_rfl) (by simp) ?_
              refine AllReadyH.cons (o := _) rfl (fun K hK => ?_) AllReadyH.nil
              refine step_appM rfl _ _ rfl (.slice ma mn mc) mn (flt enN (L.map mxl)) rfl (unhide HMR) ⟨W7.heap.size, 0, none⟩ 1 m rfl (by exact new_cells W7.drew #[_] 3) (by omega) ?_
              intro v5 w5 hr5 hg5 hat5
              obtain ⟨va5, vc5, ev5, _, _⟩ := hr5.shape
              subst ev5
              obtain ⟨y1, yz, HF8⟩ := (unhide HF7).pushM (l := l) (by rw [unhide hLn, unhide hm]; exact hr5) hg5 (by simpa using hat5)
              have ly := World.block_lt_of_cell? _ _ y1
              clear hr5 hg5 hat5
              refine hK.out _ _ (trivial) (fun hHeld5x => ?_)
              clear hK K
              go_simp
              refine wpAnyH_take (i := 6) (oi := _) (v := .pointer (some ⟨qb, 1, none⟩)) rfl (by kernel_rfl) (by kernel_rfl) (by kernel_rfl) (fun _ _ _ h => h) (Or.inl ⟨by rfl, (by intro wz hSw; go_simp)⟩) (by assumption) ?_
              go_simp
              refine wpAnyH_ready (rs := [7]) (by kernel_rfl) (by simp) ?_
              refine AllReadyH.cons (o := _) rfl (fun K hK => ?_) AllReadyH.nil
              go_simp
              refine hK.out _ _ (trivial) (fun hHeld7x => ?_)
              clear hK K
              refine wpAnyH_done (by kernel_rfl) ?_ _
              clear y1 yz ly
              obtain ⟨W9, eW9⟩ : ∃ W9, W9 = w5.setCell ⟨qb, 1, none⟩ (.slice va5 (mn + 1) vc5) := ⟨_, rfl⟩
              rw [← eW9] at HF8 ⊢
              have HR : Hid (∃ hv mv vs L, FS W5 qb hv mv vs L L W9 ∧ L.length = i + 1 ∧ ∀ (j : Nat) (f : Fc) (l : List Int), p.funcs[j]? = some f → L[j]? = some l → FnR f (some l) 0 0) := by
                refine ⟨_, _, _, L ++ [l], unhide HF8, by rw [List.length_append, unhide HLL]; rfl, fun j f' l' hf' hl' => ?_⟩
                have hln := unhide HLL
                by_cases hj : j < i
                · rw [List.getElem?_append_left (by omega)] at hl'
                  exact unhide HFN j f' l' hf' hl'
                · rw [List.getElem?_append_right (by omega)] at hl'
                  have e1 : j - L.length = 0 := by
                    have := (List.getElem?_eq_some_iff.1 hl').1
                    simp at this; omega
                  rw [e1] at hl'
                  simp at hl'
                  subst hl'
                  have e2 : j = i := by omega
                  subst e2
                  rw [unhide HI] at hf'
                  cases hf'
                  exact unhide HRR
              clear eW9
              go_wp2_with fail
              go_roundg (gk - 1)
              case measure => have := unhide hi; omega
              case rel => exact ⟨i + 1, by have := unhide hi; unfold Hid; omega, by go_num, HR⟩
            · go_simp
              refine hK.out _ _ (trivial) (fun hHeld4x => ?_)
              clear hK K
              go_simp
              refine wpAnyH_ready (rs := [1]) (by kernel_rfl) (by simp) ?_
              refine AllReadyH.cons (o := _) rfl (fun K hK => ?_) AllReadyH.nil
              go_simp
              refine hK.out _ _ (trivial) (fun hHeld1x => ?_)
              clear hK K
              go_simp
              refine wpAnyH_ready (rs := [5]) (by kernel_rfl) (by simp) ?_
              refine AllReadyH.cons (o := _) rfl (fun K hK => ?_) AllReadyH.nil
              refine step_appM rfl _ _ rfl (.slice ma mn mc) mn (flt enN (L.map mxl)) rfl (unhide HMR) ⟨W7.heap.size, 0, none⟩ 1 m rfl (by exact new_cells W7.drew #[_] 3) (by omega) ?_
              intro v5 w5 hr5 hg5 hat5
              obtain ⟨va5, vc5, ev5, _, _⟩ := hr5.shape
              subst ev5
              obtain ⟨y1, yz, HF8⟩ := (unhide HF7).pushM (l := l) (by rw [unhide hLn, unhide hm]; exact hr5) hg5 (by simpa using hat5)
              have ly := World.block_lt_of_cell? _ _ y1
              clear hr5 hg5 hat5
              refine hK.out _ _ (trivial) (fun hHeld5x => ?_)
              clear hK K
              go_simp
              refine wpAnyH_take (i := 6) (oi := _) (v := .pointer (some ⟨qb, 1, none⟩)) rfl (by kernel_rfl) (by kernel_rfl) (by kernel_rfl) (fun _ _ _ h => h) (Or.inl ⟨by rfl, (by intro wz hSw; go_simp)⟩) (by assumption) ?_
              go_simp
              refine wpAnyH_ready (rs := [7]) (by kernel_rfl) (by simp) ?_
              refine AllReadyH.cons (o := _) rfl (fun K hK => ?_) AllReadyH.nil
              go_simp
              refine hK.out _ _ (trivial) (fun hHeld7x => ?_)
              clear hK K
              refine wpAnyH_done (by kernel_rfl) ?_ _
              clear y1 yz ly
              obtain ⟨W9, eW9⟩ : ∃ W9, W9 = w5.setCell ⟨qb, 1, none⟩ (.slice va5 (mn + 1) vc5) := ⟨_, rfl⟩
              rw [← eW9] at HF8 ⊢
              have HR : Hid (∃ hv mv vs L, FS W5 qb hv mv vs L L W9 ∧ L.length = i + 1 ∧ ∀ (j : Nat) (f : Fc) (l : List Int), p.funcs[j]? = some f → L[j]? = some l → FnR f (some l) 0 0) := by
                refine ⟨_, _, _, L ++ [l], unhide HF8, by rw [List.length_append, unhide HLL]; rfl, fun j f' l' hf' hl' => ?_⟩
                have hln := unhide HLL
                by_cases hj : j < i
                · rw [List.getElem?_append_left (by omega)] at hl'
                  exact unhide HFN j f' l' hf' hl'
                · rw [List.getElem?_append_right (by omega)] at hl'
                  have e1 : j - L.length = 0 := by
                    have := (List.getElem?_eq_some_iff.1 hl').1
                    simp at this; omega
                  rw [e1] at hl'
                  simp at hl'
                  subst hl'
                  have e2 : j = i := by omega
                  subst e2
                  rw [unhide HI] at hf'
                  cases hf'
                  exact unhide HRR
              clear eW9
              go_wp2_with fail
              go_roundg (gk - 1)
              case measure => have := unhide hi; omega
              case rel => exact ⟨i + 1, by have := unhide hi; unfold Hid; omega, by go_num, HR⟩
      · have hiN : i = NF := by have := unhide hi; omega
        subst hiN
        have hi1 : ¬ (i : Int) < (i : Int) := by omega
        have HV : Hid (VpR p (some L) 0 0 0) := .inr (.inr ⟨unhide HCK, rfl, rfl, rfl, L, rfl, by rw [unhide HLL, unhide hNF], unhide HFN⟩)
        have p2 := (unhide Q2).keep (fun g hg => hB5w.block g ((unhide Q2).lt g hg))
        have p3 := (unhide Q3).keep (fun g hg => hB5w.block g ((unhide Q3).lt g hg))
        obtain ⟨m0, m1⟩ := B2.cells p2
        obtain ⟨n0, n1⟩ := B2.cells p3
        have z20 := p2.free rfl 0
        have z21 := p2.free rfl 1
        have z30 := p3.free rfl 0
        have z31 := p3.free rfl 1
        have l2 := World.block_lt_of_cell? _ _ m0
        have l3 := World.block_lt_of_cell? _ _ n0
        have b1 := (B2.cells ((unhide Q1).keep (fun g hg => hB5w.block g ((unhide Q1).lt g hg)))).2
        have lb1 := World.block_lt_of_cell? _ _ b1
        have c0 := (unhide HF1).c0
        have c1 := (unhide HF1).c1
        have lq := (unhide HF1).lt
        obtain ⟨E2, E3, BE, FE⟩ := two_put0 p2 p3 (by omega) (unhide HBW) (by omega) (by omega) hv mv (.int .i64 0) (.int .i64 0)
        have HE2 := hide E2
        have HE3 := hide E3
        have HBE := hide BE
        have hno : ∀ k, W5.heap.size ≤ k → ¬ (k = w.heap.size + 1 ∨ k = w.heap.size + 1 + 1) := fun k hk e => by omega
        have hB5s := (unhide HB5).size
        have HFC : Hid (FcR w.heap.size ((wr.setCells (w.heap.size + 1) 0 [hv, mv]).setCells (w.heap.size + 1 + 1) 0 [.int .i64 0, .int .i64 0]) hv mv L) := ⟨vs, (unhide HF1).hr.fr FE (fun k hk => hno k ((unhide HF1).ho k hk).1), fun j l u h1 h2 => ⟨((unhide HF1).el j l u h1 h2).1.fr FE (fun k hk => hno k (((unhide HF1).el j l u h1 h2).2 k hk).1), fun k hk => Nat.le_trans hB5s (((unhide HF1).el j l u h1 h2).2 k hk).1⟩, (unhide HF1).mr.fr FE (fun k hk => hno k ((unhide HF1).mo k hk).1), fun k hk => Nat.le_trans hB5s ((unhide HF1).ho k hk).1, fun k hk => Nat.le_trans hB5s ((unhide HF1).mo k hk).1⟩
        obtain ⟨ha, hcap, eh, _, _⟩ := (unhide HF1).hr.shape
        obtain ⟨ma, mc, em, _, _⟩ := (unhide HF1).mr.shape
        subst eh em
        clear p2 p3 E2 E3 BE FE hno hB5w
        go_wp2_with fail
        (try simp only [Exit.inBlock, Exit.then])
        refine bodyPost_ret (results_mix rfl _ _ _ rfl rfl (load30 (unhide HE2)) (load32 (unhide HE3))) rfl ?_
        exact ⟨_, some L, _, _, _, rfl, unhide HV, unhide HBE, (fun e => by cases e), fun Ls e => by cases e; exact ⟨_, _, rfl, unhide HFC⟩⟩
end Go.Proofs.YtlogmdldjmkkjaaGreatDoor
