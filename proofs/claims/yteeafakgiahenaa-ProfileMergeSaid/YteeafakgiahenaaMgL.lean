/-
  ProfileMerge's law.
-/
import Derived.Test.YteeafakgiahenaaMgA
namespace Go.Proofs.Yteeafakgiahenaa
open Go.RowKit
set_option linter.unusedVariables false
set_option linter.unusedSimpArgs false
set_option maxRecDepth 100000 in
set_option maxHeartbeats 12800000 in
theorem mergeLaw {w : World} {av bv : Value} {f g : List (List Sp)} (ha : PfV w av f) (hb : PfV w bv g) (hN : f.length ≤ 5864062014634) (hM : ∀ l ∈ f, l.length ≤ 5864062014634) (hN2 : g.length ≤ 5864062014634) (hM2 : ∀ l ∈ g, l.length ≤ 5864062014634) (hKA : OkF f) (hKB : OkF g) :
    Calls Try.prog 4 #[.agg #[av], .agg #[bv]] w fun e w' => e = .returned (.bool true) ∧ Below w.heap.size w w' := by
  obtain ⟨a, acap, rfl, ha1, ha2⟩ := ha.shape
  obtain ⟨b, bcap, rfl, hb1, hb2⟩ := hb.shape
  have HPA := hide ha
  have HPB := hide hb
  have HKA := hide hKA
  have HKB := hide hKB
  have HNN := hide (And.intro hN (And.intro hM (And.intro hN2 hM2)))
  unfold maxLen at ha2 hb2
  clear ha hb hKA hKB hM hM2
  obtain ⟨LA, hLA⟩ : ∃ L, Hid (f.length = L) := ⟨_, hide rfl⟩
  obtain ⟨LB, hLB⟩ : ∃ L, Hid (g.length = L) := ⟨_, hide rfl⟩
  obtain ⟨M, hMM⟩ : ∃ M, Hid ((mrg f g).length = M) := ⟨_, hide rfl⟩
  rw [unhide hLA] at ha1 hN HPA ⊢
  rw [unhide hLB] at hb1 hN2 HPB ⊢
  have HX2 := hide (Bx2.start w (.slice a LA acap) (.slice b LB bcap) 24 24)
  obtain ⟨W0, hW0⟩ : ∃ W0, Hid ((w.alloc (.cells #[.slice a LA acap] 24)).alloc (.cells #[.slice b LB bcap] 24) = W0) := ⟨_, hide rfl⟩
  have hW0s : W0.heap.size = w.heap.size + 2 := by rw [← unhide hW0]; simp
  have HL1 : Hid (Calls Try.prog 5 #[.agg #[.slice a LA acap]] ((w.alloc (.cells #[.slice a LA acap] 24)).alloc (.cells #[.slice b LB bcap] 24)) fun e w' => ∃ gv vs, e = .returned (.agg #[gv]) ∧ LO (fun k => W0.heap.size + 3 ≤ k) w' gv f vs ∧ Below W0.heap.size W0 w') := by
    have := lentP_any ((unhide HPA).below (unhide HX2).1 (Nat.le_refl _)) (unhide HNN).1 (unhide HNN).2.1
    rw [unhide hW0] at this ⊢
    exact this
  go_enter Try.func4, Try.ntmps4
  go_wp2_with fail
  refine (unhide HL1).mono ?_
  rintro e w1 ⟨xv, xs, rfl, O1, b1⟩
  obtain ⟨xa, xc, ex, hx1, hx2⟩ := O1.row.shape
  rw [unhide hLA] at ex hx1
  subst ex
  have HO1 := hide O1
  rw [unhide hW0] at HX2
  have HE1 := hide ((unhide HX2).on b1)
  have HB1 := hide b1
  clear HL1 O1 b1 HX2
  obtain ⟨W1, hW1⟩ : ∃ W1, Hid (w1.alloc (.cells #[.slice xa LA xc] 24) = W1) := ⟨_, hide rfl⟩
  have HBW1 : Hid (Below w1.heap.size w1 W1) := by rw [← unhide hW1]; exact box4 _ _ _
  have HL2 : Hid (Calls Try.prog 5 #[.agg #[.slice b LB bcap]] (w1.alloc (.cells #[.slice xa LA xc] 24)) fun e w' => ∃ gv vs, e = .returned (.agg #[gv]) ∧ LO (fun k => W1.heap.size + 3 ≤ k) w' gv g vs ∧ Below W1.heap.size W1 w') := by
    have := lentP_any ((unhide HPB).below (bl_past (unhide HE1).1 (unhide HBW1)) (Nat.le_refl _)) (unhide HNN).2.2.1 (unhide HNN).2.2.2
    rw [unhide hW1]
    exact this
  obtain ⟨-, q0, q1, bs⟩ := unhide HE1
  have bz0 : w.heap.size < w1.heap.size := by omega
  have bz1 : w.heap.size + 1 < w1.heap.size := by omega
  go_wp2_with fail
  refine (unhide HL2).mono ?_
  rintro e w2 ⟨yv, ys, rfl, O2, b2⟩
  obtain ⟨ya, yc, ey, hy1, hy2⟩ := O2.row.shape
  rw [unhide hLB] at ey hy1
  subst ey
  have HO2 := hide O2
  have HB2 := hide b2
  clear HL2 O2 b2 q0 q1 bz0 bz1
  obtain ⟨W2, hW2⟩ : ∃ W2, Hid (w2.alloc (.cells #[.slice ya LB yc] 24) = W2) := ⟨_, hide rfl⟩
  have HBW2 : Hid (Below w2.heap.size w2 W2) := by rw [← unhide hW2]; exact box4 _ _ _
  have HE2 := hide (((unhide HE1).on (unhide HBW1)).on (unhide HB2))
  have HE2' := hide ((unhide HE2).on (unhide HBW2))
  have HL3 : Hid (Calls Try.prog 9 #[.agg #[.slice a LA acap], .agg #[.slice b LB bcap]] (w2.alloc (.cells #[.slice ya LB yc] 24)) fun e w' => ∃ gv vs, e = .returned (.agg #[gv]) ∧ SO (fun k => W2.heap.size ≤ k) w' gv (mrg f g) vs ∧ Below W2.heap.size W2 w') := by
    have := refMerge_any ((unhide HPA).below (unhide HE2').1 (Nat.le_refl _)) ((unhide HPB).below (unhide HE2').1 (Nat.le_refl _)) (unhide HNN).1 (unhide HNN).2.1 (unhide HNN).2.2.1 (unhide HNN).2.2.2 (unhide HKA) (unhide HKB)
    rw [unhide hW2]
    exact this
  obtain ⟨-, q0, q1, bs2⟩ := unhide HE2
  have bz0 : w.heap.size < w2.heap.size := by omega
  have bz1 : w.heap.size + 1 < w2.heap.size := by omega
  go_wp2_with fail
  refine (unhide HL3).mono ?_
  rintro e w3 ⟨wv, ws, rfl, O3, b3⟩
  obtain ⟨wa, wc, ew, hw1, hw2⟩ := O3.row.shape
  rw [unhide hMM] at ew hw1
  subst ew
  have HO3 := hide O3
  have HB3 := hide b3
  clear HL3 O3 b3 q0 q1 bz0 bz1
  obtain ⟨W3, hW3⟩ : ∃ W3, Hid (w3.alloc (.cells #[.slice wa M wc] 24) = W3) := ⟨_, hide rfl⟩
  have HBW3 : Hid (Below w3.heap.size w3 W3) := by rw [← unhide hW3]; exact box4 _ _ _
  have B13 : Below w1.heap.size w1 w3 := bl_past (bl_past (bl_past (unhide HBW1) (unhide HB2)) (unhide HBW2)) (unhide HB3)
  have HE3 := hide ((unhide HE2').on (unhide HB3))
  have B23 : Below w2.heap.size w2 w3 := bl_past (unhide HBW2) (unhide HB3)
  have HX1 : Hid (LO (fun k => W0.heap.size + 3 ≤ k) w3 (.slice xa LA xc) f xs) := (unhide HO1).below staysL B13
  have HY1 : Hid (LO (fun k => W1.heap.size + 3 ≤ k) w3 (.slice ya LB yc) g ys) := (unhide HO2).below staysL B23
  have HL4 : Hid (Calls Try.prog 10 #[.agg #[.slice xa LA xc], .agg #[.slice ya LB yc]] (w3.alloc (.cells #[.slice wa M wc] 24)) fun e w' => ∃ gv vs, e = .returned (.agg #[gv]) ∧ SO (fun k => W3.heap.size ≤ k) w' gv (mrg f g) vs ∧ Below W3.heap.size W3 w') := by
    have := merge_any (((unhide HX1).below staysL (unhide HBW3)).lpf) (((unhide HY1).below staysL (unhide HBW3)).lpf) (unhide HNN).1 (unhide HNN).2.1 (unhide HNN).2.2.1 (unhide HNN).2.2.2 (unhide HKA) (unhide HKB)
    rw [unhide hW3]
    exact this
  -- the boxes of x and y, at w3
  have kX : w3.heap[w1.heap.size]? = some (.cells #[.slice xa LA xc] 24) := by
    have h1 := heap_alloc_new w1 (.cells #[.slice xa LA xc] 24)
    rw [unhide hW1] at h1
    exact ((bl_past (bl_past (unhide HB2) (unhide HBW2)) (unhide HB3)).block _ (Array.getElem?_eq_some_iff.1 h1).1).trans h1
  have kY : w3.heap[w2.heap.size]? = some (.cells #[.slice ya LB yc] 24) := by
    have h1 := heap_alloc_new w2 (.cells #[.slice ya LB yc] 24)
    rw [unhide hW2] at h1
    exact ((unhide HB3).block _ (Array.getElem?_eq_some_iff.1 h1).1).trans h1
  have HKX := hide kX
  have HKY := hide kY
  obtain ⟨cX, -, zX⟩ := blk_cells kX
  obtain ⟨cY, -, zY⟩ := blk_cells kY
  have pX := cX 0
  have pY := cY 0
  simp at pX pY
  clear cX cY kX kY
  go_wp2_with fail
  refine (unhide HL4).mono ?_
  rintro e w4 ⟨gv, gs, rfl, O4, b4⟩
  obtain ⟨ga, gc, eg, hg1, hg2⟩ := O4.row.shape
  rw [unhide hMM] at eg hg1
  subst eg
  have HO4 := hide O4
  have HB4 := hide b4
  clear HL4 O4 b4 pX pY zX zY B13 B23
  obtain ⟨W4, hW4⟩ : ∃ W4, Hid (w4.alloc (.cells #[.slice ga M gc] 24) = W4) := ⟨_, hide rfl⟩
  have HBW4 : Hid (Below w4.heap.size w4 W4) := by rw [← unhide hW4]; exact box4 _ _ _
  have B34 : Below w3.heap.size w3 W4 := bl_past (bl_past (unhide HBW3) (unhide HB4)) (unhide HBW4)
  have s1 := (unhide HB1).size
  have s2 : w1.heap.size + 1 ≤ w2.heap.size := by have h1 := (unhide HB2).size; have h2 : W1.heap.size = w1.heap.size + 1 := by rw [← unhide hW1]; simp
                                                  omega
  have s3 : w2.heap.size + 1 ≤ w3.heap.size := by have h1 := (unhide HB3).size; have h2 : W2.heap.size = w2.heap.size + 1 := by rw [← unhide hW2]; simp
                                                  omega
  have s4 : w3.heap.size + 1 ≤ w4.heap.size := by have h1 := (unhide HB4).size; have h2 : W3.heap.size = w3.heap.size + 1 := by rw [← unhide hW3]; simp
                                                  omega
  have hW1s : W1.heap.size = w1.heap.size + 1 := by rw [← unhide hW1]; simp
  have hW2s : W2.heap.size = w2.heap.size + 1 := by rw [← unhide hW2]; simp
  have hW3s : W3.heap.size = w3.heap.size + 1 := by rw [← unhide hW3]; simp
  have HENV : Hid (∀ W, Fr (fun k => w.heap.size + 2 ≤ k ∧ k < w1.heap.size) W4 W → (W.cell? ⟨w1.heap.size, 0, none⟩ = some (.slice xa LA xc) ∧ W.cell? ⟨w.heap.size + 1, 0, none⟩ = some (.slice b LB bcap) ∧ W.cell? ⟨w2.heap.size, 0, none⟩ = some (.slice ya LB yc) ∧ W.cell? ⟨w4.heap.size, 0, none⟩ = some (.slice ga M gc) ∧ W.cell? ⟨w3.heap.size, 0, none⟩ = some (.slice wa M wc) ∧ W.cell? ⟨w.heap.size, 0, none⟩ = some (.slice a LA acap)) ∧ PfV W (.slice a LA acap) f ∧ PfV W (.slice b LB bcap) g ∧ LO (fun k => W1.heap.size + 3 ≤ k) W (.slice ya LB yc) g ys ∧ PfV W (.slice wa M wc) (mrg f g) ∧ PfV W (.slice ga M gc) (mrg f g) ∧ Below w.heap.size w W) := fun W hF => by
    have hE4 := ((unhide HE3).on B34)
    have hB : Below w.heap.size w W := hE4.1.trans (hF.below hE4.1.size (fun k hk e => by omega))
    have kW : W4.heap[w3.heap.size]? = some (.cells #[.slice wa M wc] 24) := by
      have h1 := heap_alloc_new w3 (.cells #[.slice wa M wc] 24)
      rw [unhide hW3] at h1
      exact ((bl_past (unhide HB4) (unhide HBW4)).block _ (Array.getElem?_eq_some_iff.1 h1).1).trans h1
    have kG : W4.heap[w4.heap.size]? = some (.cells #[.slice ga M gc] 24) := by
      have h1 := heap_alloc_new w4 (.cells #[.slice ga M gc] 24)
      rw [unhide hW4] at h1
      exact h1
    have kX := (B34.block _ (Array.getElem?_eq_some_iff.1 (unhide HKX)).1).trans (unhide HKX)
    have kY := (B34.block _ (Array.getElem?_eq_some_iff.1 (unhide HKY)).1).trans (unhide HKY)
    have cc : ∀ (k : Nat) (u : Value), W4.heap[k]? = some (.cells #[u] 24) → ¬ (w.heap.size + 2 ≤ k ∧ k < w1.heap.size) → W.cell? ⟨k, 0, none⟩ = some u := fun k u h hn => by
      have h1 := hF.block k (Array.getElem?_eq_some_iff.1 h).1 hn
      exact (blk_cells (h1.trans h)).1 0
    have e4s := hE4.2.2.2
    refine ⟨⟨cc _ _ kX (by omega), ?_, cc _ _ kY (by omega), cc _ _ kG (by omega), cc _ _ kW (by omega), ?_⟩, (unhide HPA).below hB (Nat.le_refl _), (unhide HPB).below hB (Nat.le_refl _), ?_, ?_, ?_, hB⟩
    · exact (hF.cell (a := ⟨w.heap.size + 1, 0, none⟩) (by show w.heap.size + 1 < _; omega) (by show ¬ (w.heap.size + 2 ≤ w.heap.size + 1 ∧ _); omega)).trans hE4.2.2.1
    · exact (hF.cell (a := ⟨w.heap.size, 0, none⟩) (by show w.heap.size < _; omega) (by show ¬ (w.heap.size + 2 ≤ w.heap.size ∧ _); omega)).trans hE4.2.1
    · exact ((unhide HY1).below staysL B34).frZ staysL hF (fun k _ hk e => by omega)
    · exact (((unhide HO3).below staysS B34).frZ staysS hF (fun k _ hk e => by omega)).pf
    · exact (((unhide HO4).below staysS (unhide HBW4)).frZ staysS hF (fun k _ hk e => by omega)).pf
  have HXL : Hid (LO (fun k => W0.heap.size + 3 ≤ k) W4 (.slice xa LA xc) f xs) := (unhide HX1).below staysL B34
  have HXB : Hid (∀ (u : Value) (k : Nat), u ∈ xs → blV u k → w.heap.size + 2 ≤ k ∧ k < w1.heap.size) := fun u k hu hk => by
    obtain ⟨i, hi, rfl⟩ := List.getElem_of_mem hu
    have := (unhide HO1).eb i _ k (List.getElem?_eq_getElem hi) hk
    omega
  have hSG : ∀ W, Fr (fun k => w.heap.size + 2 ≤ k ∧ k < w1.heap.size) W4 W → Calls Try.prog 11 #[.agg #[.slice ga M gc], .agg #[.slice wa M wc]] W fun e w' => e = .returned (.bool true) ∧ Below W.heap.size W w' := fun W hF => by
    obtain ⟨_, _, _, _, h1, h2, _⟩ := unhide HENV W hF
    have := sameP_any h2 h1
    rw [Dc_true rfl] at this
    exact this
  have HSG0 := hide hSG
  have HK8 : Hid (∀ W, Below W4.heap.size W4 W → (Calls Try.prog 8 #[.agg #[.slice xa LA xc], .agg #[.slice a LA acap]] W fun e w' => e = .returned (.bool true) ∧ Below W.heap.size W w') ∧ Calls Try.prog 8 #[.agg #[.slice ya LB yc], .agg #[.slice b LB bcap]] W fun e w' => e = .returned (.bool true) ∧ Below W.heap.size W w') := fun W hW => by
    obtain ⟨_, h1, h2, h3, _⟩ := unhide HENV W (Fr.of_below hW)
    exact ⟨keptP_any ((unhide HXL).below staysL hW) h1, keptP_any h3 h2⟩
  -- region 4 up to the loop
  obtain ⟨⟨e0, e1, e2, e3, e4, e5⟩, -⟩ := unhide HENV W4 (Fr.refl _ _)
  have HSGc : Hid (Calls Try.prog 11 #[.agg #[.slice ga M gc], .agg #[.slice wa M wc]] (w4.alloc (.cells #[.slice ga M gc] 24)) fun e w' => e = .returned (.bool true) ∧ Below W4.heap.size W4 w') := by
    rw [unhide hW4]
    exact unhide HSG0 W4 (Fr.refl _ _)
  have zW : w3.heap.size < w4.heap.size := by omega
  have y4 : w4.cell? ⟨w3.heap.size, 0, none⟩ = some (.slice wa M wc) := ((unhide HBW4).cell (p := ⟨w3.heap.size, 0, none⟩) zW).symm.trans e4
  clear e0 e1 e2 e3 e4 e5
  clear hSG HO2 HO3 HO4 HX1 HY1 HKX HKY HE1 HE2 HE2' HE3 B34 HPA HPB HBW1 HBW2 HBW3 HBW4 HB1 HB2 HB3 HB4
  go_wp2_with fail
  refine (unhide HSGc).mono ?_
  rintro e w5 ⟨rfl, b5⟩
  have HB5 := hide b5
  clear b5 HSGc y4
  obtain ⟨⟨e0, e1, e2, e3, e4, e5⟩, -⟩ := unhide HENV w5 (Fr.of_below (unhide HB5))
  go_wp2_with fail
  refine ((unhide HK8 w5 (unhide HB5)).1).mono ?_
  rintro e w6 ⟨rfl, b6⟩
  have HB6 := hide (bl_past (unhide HB5) b6)
  clear b6 e0 e1 e2 e3 e4 e5
  obtain ⟨⟨e0, e1, e2, e3, e4, e5⟩, -⟩ := unhide HENV w6 (Fr.of_below (unhide HB6))
  go_wp2_with fail
  refine ((unhide HK8 w6 (unhide HB6)).2).mono ?_
  rintro e w7 ⟨rfl, b7⟩
  have HB7 := hide (bl_past (unhide HB6) b7)
  clear b7 e0 e1 e2 e3 e4 e5 HB5 HB6
  have HLP : Hid (Fr (fun k => w.heap.size + 2 ≤ k ∧ k < w1.heap.size) W4 w7 ∧ ∃ f2, SO (fun k => W0.heap.size + 3 ≤ k) w7 (.slice xa LA xc) f2 xs ∧ Alk f f2 ∧ OkF f2) := ⟨Fr.of_below (unhide HB7), f, ((unhide HXL).below staysL (unhide HB7)).toS, rfl, unhide HKA⟩
  go_wp2_with fail
  go_loopg [9] LA (fun gg t9 wr => ∃ (i : Nat), Hid (i + gg = LA) ∧ t9 = .int .i64 (i : Int) ∧ Hid (Fr (fun k => w.heap.size + 2 ≤ k ∧ k < w1.heap.size) W4 wr ∧ ∃ f2, SO (fun k => W0.heap.size + 3 ≤ k) wr (.slice xa LA xc) f2 xs ∧ Alk f f2 ∧ OkF f2))
  case atStart => exact ⟨0, by unfold Hid; omega, rfl, HLP⟩
  case round =>
    clear HLP HB7 HXL HK8
    obtain ⟨i, hi, rfl, hP⟩ := hrel
    obtain ⟨⟨e0, e1, e2, e3, e4, e5⟩, -⟩ := unhide HENV wr (unhide hP).1
    have zz : w1.heap.size < wr.heap.size := World.block_lt_of_cell? _ _ e0
    have i0 : (0 : Int) ≤ (i : Int) := by omega
    unfold maxLen at hx2
    by_cases hlt : i < LA
    · have i1 : (i : Int) < (LA : Int) := by omega
      obtain ⟨p, hp⟩ : ∃ p, f[i]? = some p := ⟨_, List.getElem?_eq_getElem (by rw [unhide hLA]; exact hlt)⟩
      obtain ⟨N, hNp⟩ : ∃ N, Hid (p.length = N) := ⟨_, hide rfl⟩
      have hNle : N ≤ 5864062014634 := by rw [← unhide hNp]; exact (unhide HNN).2.1 p (List.mem_of_getElem? hp)
      have HP0 := hide hp
      -- a list of x, for any world of these
      have HROW : Hid (∀ W, (Fr (fun k => w.heap.size + 2 ≤ k ∧ k < w1.heap.size) W4 W ∧ ∃ f2, SO (fun k => W0.heap.size + 3 ≤ k) W (.slice xa LA xc) f2 xs ∧ Alk f f2 ∧ OkF f2) → ∃ xb xo u, xa = some ⟨xb, xo, none⟩ ∧ xs[i]? = some u ∧ xb < W.heap.size ∧ W.cell? ⟨xb, xo + i, none⟩ = some u ∧ ∃ l, Ro W 4 u N (flt enS l) ∧ l.length = N) := fun W hW => by
        obtain ⟨_, f2, hO, hA, _⟩ := hW
        have hi2 : i < f2.length := by rw [hA.len, unhide hLA]; exact hlt
        obtain ⟨l, hl⟩ : ∃ l, f2[i]? = some l := ⟨_, List.getElem?_eq_getElem hi2⟩
        have hxl := hO.len
        have hxi : xs[i]? = some (xs[i]'(by omega)) := List.getElem?_eq_getElem (by omega)
        have hll : l.length = N := by rw [hA.at (unhide HP0) hl]; exact unhide hNp
        have hrow := Rx.of_ro hO.row
        rw [← hxl] at hrow
        obtain ⟨xb, xo, _, ee, _, _, hbl, hc⟩ := hrow.elem zV hxi
        cases ee
        have hc0 := hc 0 _ rfl
        rw [Nat.mul_one, Nat.add_zero] at hc0
        have hel : Ro W 4 _ l.length (flt enS l) := hO.el i l _ hl hxi
        rw [hll] at hel
        exact ⟨xb, xo, _, rfl, hxi, hbl, hc0, l, hel, hll⟩
      obtain ⟨xb, xo, u, exa, hxi, hxb, hxc, l0, hel, hll⟩ := unhide HROW wr (unhide hP)
      subst exa
      obtain ⟨ua, uc, eu, hu1, hu2⟩ := hel.shape
      subst eu
      have HXI := hide hxi
      unfold maxLen at hu2
      obtain ⟨G0, hG0⟩ : ∃ G0 : Nat, Hid (G0 = gk) := ⟨_, hide rfl⟩
      clear hp hel hxi hll
      go_wp2_with fail
      clear e0 e1 e2 e3 e4 e5 zz hxc hxb
      go_loopg [10] N (fun gg t10 wr => ∃ (j : Nat), Hid (j + gg = N) ∧ t10 = .int .i64 (j : Int) ∧ Hid (Fr (fun k => w.heap.size + 2 ≤ k ∧ k < w1.heap.size) W4 wr ∧ ∃ f2, SO (fun k => W0.heap.size + 3 ≤ k) wr (.slice (some ⟨xb, xo, none⟩) LA xc) f2 xs ∧ Alk f f2 ∧ OkF f2))
      case atStart => exact ⟨0, by unfold Hid; omega, rfl, hP⟩
      case round =>
        clear hP
        obtain ⟨j, hj, rfl, hP⟩ := hrel
        obtain ⟨⟨e0, e1, e2, e3, e4, e5⟩, -⟩ := unhide HENV wr (unhide hP).1
        have zz : w1.heap.size < wr.heap.size := World.block_lt_of_cell? _ _ e0
        obtain ⟨xb', xo', u', exa, hxi, hxb, hxc, -⟩ := unhide HROW wr (unhide hP)
        cases exa
        rw [unhide HXI] at hxi
        cases hxi
        have j0 : (0 : Int) ≤ (j : Int) := by omega
        by_cases hjt : j < N
        · have j1 : (j : Int) < (N : Int) := by omega
          obtain ⟨hF, f2, hO, hA, hK⟩ := unhide hP
          have hi2 : i < f2.length := by rw [hA.len, unhide hLA]; exact hlt
          obtain ⟨l, hl⟩ : ∃ l, f2[i]? = some l := ⟨_, List.getElem?_eq_getElem hi2⟩
          have hll : l.length = N := by rw [hA.at (unhide HP0) hl]; exact unhide hNp
          have hel : Ro wr 4 _ l.length (flt enS l) := hO.el i l _ hl (unhide HXI)
          rw [hll] at hel
          obtain ⟨ub, uo, _, eu, -, -, hubl, huc⟩ := hel.full (by omega)
          have eua : ua = some ⟨ub, uo, none⟩ := by cases eu; rfl
          subst eua
          have fz : ∀ k, wr.frozen? ⟨ub, k, none⟩ = false := fun k => hel.free rfl k
          have yy : ∀ c, c < 4 → ∃ u, wr.cell? ⟨ub, uo + j * 4 + c, none⟩ = some u := fun c hc => by
            have := huc (j * 4 + c) (by omega)
            rw [← Nat.add_assoc] at this
            rw [this]
            exact ⟨_, List.getElem?_eq_getElem (by rw [hel.1]; omega)⟩
          obtain ⟨u0, y0⟩ := yy 0 (by omega)
          obtain ⟨u1, y1⟩ := yy 1 (by omega)
          obtain ⟨u2, y2⟩ := yy 2 (by omega)
          obtain ⟨u3, y3⟩ := yy 3 (by omega)
          rw [Nat.add_zero] at y0
          have z0 := fz (uo + j * 4)
          have z1 := fz (uo + j * 4 + 1)
          have z2 := fz (uo + j * 4 + 2)
          have z3 := fz (uo + j * 4 + 3)
          have HN : Hid (Fr (fun k => w.heap.size + 2 ≤ k ∧ k < w1.heap.size) W4 ((((wr.setCell ⟨ub, uo + j * 4, none⟩ (.int .i64 (j : Int))).setCell ⟨ub, uo + j * 4 + 1, none⟩ (.int .u16 0)).setCell ⟨ub, uo + j * 4 + 2, none⟩ (.int .u16 0)).setCell ⟨ub, uo + j * 4 + 3, none⟩ (.int .i64 (i : Int))) ∧ ∃ f2, SO (fun k => W0.heap.size + 3 ≤ k) ((((wr.setCell ⟨ub, uo + j * 4, none⟩ (.int .i64 (j : Int))).setCell ⟨ub, uo + j * 4 + 1, none⟩ (.int .u16 0)).setCell ⟨ub, uo + j * 4 + 2, none⟩ (.int .u16 0)).setCell ⟨ub, uo + j * 4 + 3, none⟩ (.int .i64 (i : Int))) (.slice (some ⟨xb, xo, none⟩) LA xc) f2 xs ∧ Alk f f2 ∧ OkF f2) := by
            obtain ⟨r1, r2⟩ := hel.putAt zS hll rfl hjt ⟨(j : Int), 0, 0, (i : Int)⟩
            rw [show wr.setCells ub (uo + j * 4) (enS ⟨(j : Int), 0, 0, (i : Int)⟩) = (((wr.setCell ⟨ub, uo + j * 4, none⟩ (.int .i64 (j : Int))).setCell ⟨ub, uo + j * 4 + 1, none⟩ (.int .u16 0)).setCell ⟨ub, uo + j * 4 + 2, none⟩ (.int .u16 0)).setCell ⟨ub, uo + j * 4 + 3, none⟩ (.int .i64 (i : Int)) from rfl] at r1 r2
            have hub := unhide HXB _ ub (List.mem_of_getElem? (unhide HXI)) rfl
            refine ⟨hF.trans (r2.mono (fun k _ e => by rw [e]; exact hub)), f2.set i (l.set j ⟨(j : Int), 0, 0, (i : Int)⟩), hO.innerU staysS r2 hi2 (unhide HXI) (fun k e => by rw [e]; rfl) ?_, hA.set hl j _, hK.set hl j (by unfold okS; dsimp only; omega)⟩
            show Ro _ 4 _ (l.set j _).length _
            rw [List.length_set, hll]
            exact r1
          clear hel huc fz yy hF hO hA hK hl hll hi2
          go_wp2_with fail
          go_roundg (gk - 1)
          case measure => have := unhide hj; omega
          case rel => exact ⟨j + 1, by have := unhide hj; unfold Hid; omega, by go_num, HN⟩
        · have hjN : j = N := by have := unhide hj; omega
          subst hjN
          go_wp2_with fail
          go_roundg (G0 - 1)
          case measure => have h1 := unhide hG0; have h2 := unhide hi; omega
          case rel => exact ⟨i + 1, by have h1 := unhide hG0; have h2 := unhide hi; unfold Hid; omega, by go_num, hP⟩
    · have hiL : i = LA := by have := unhide hi; omega
      subst hiL
      obtain ⟨hF, f2, hO, hA, hK2⟩ := unhide hP
      have HF := hide hF
      have HO := hide hO
      have HAK := hide (And.intro hA hK2)
      have HML2 : Hid ((mrg f2 g).length = M) := by rw [← unhide hMM, mrg_len, mrg_len, hA.len]; rfl
      have HL2 : Hid (f2.length = i) := by rw [hA.len]; exact unhide hLA
      have HB2' : Hid (f2.length ≤ 5864062014634 ∧ ∀ l ∈ f2, l.length ≤ 5864062014634) := ⟨by rw [hA.len]; exact (unhide HNN).1, hA.le (unhide HNN).2.1⟩
      have HE2 : Hid (∀ W, Below wr.heap.size wr W → W.cell? ⟨w1.heap.size, 0, none⟩ = some (.slice xa i xc) ∧ W.cell? ⟨w.heap.size + 1, 0, none⟩ = some (.slice b LB bcap) ∧ W.cell? ⟨w2.heap.size, 0, none⟩ = some (.slice ya LB yc) ∧ W.cell? ⟨w4.heap.size, 0, none⟩ = some (.slice ga M gc) ∧ W.cell? ⟨w3.heap.size, 0, none⟩ = some (.slice wa M wc) ∧ W.cell? ⟨w.heap.size, 0, none⟩ = some (.slice a i acap)) := fun W hW => (unhide HENV W ((unhide HF).trans (Fr.of_below hW))).1
      have HS14 : Hid (∀ W, Below wr.heap.size wr W → W.cell? ⟨w1.heap.size, 0, none⟩ = some (.slice xa i xc) ∧ W.cell? ⟨w.heap.size + 1, 0, none⟩ = some (.slice b LB bcap)) := fun W hW => ⟨(unhide HE2 W hW).1, (unhide HE2 W hW).2.1⟩
      have HC12 : Hid (∀ W, Below wr.heap.size wr W → Calls Try.prog 12 #[.agg #[.slice xa i xc]] W fun e w' => ∃ gv vs, e = .returned (.agg #[gv]) ∧ SO (fun k => W.heap.size ≤ k) w' gv f2 vs ∧ Below W.heap.size W w') := fun W hW => copyP_any ((unhide HO).below staysS hW).pf (unhide HB2').1 (unhide HB2').2
      have HR9 : Hid (∀ (W : World) (v : Value), Below wr.heap.size wr W → PfV W v f2 → Calls Try.prog 9 #[.agg #[v], .agg #[.slice b LB bcap]] W fun e w' => ∃ gv vs, e = .returned (.agg #[gv]) ∧ SO (fun k => W.heap.size ≤ k) w' gv (mrg f2 g) vs ∧ Below W.heap.size W w') := fun W v hW hv => refMerge_any hv (unhide HENV W ((unhide HF).trans (Fr.of_below hW))).2.2.1 (unhide HB2').1 (unhide HB2').2 (unhide HNN).2.2.1 (unhide HNN).2.2.2 (unhide HAK).2 (unhide HKB)
      have HMXY : Hid (∀ W, Below wr.heap.size wr W → Calls Try.prog 10 #[.agg #[.slice xa i xc], .agg #[.slice ya LB yc]] W fun e w' => ∃ gv vs, e = .returned (.agg #[gv]) ∧ SO (fun k => W.heap.size ≤ k) w' gv (mrg f2 g) vs ∧ Below W.heap.size W w') := fun W hW => merge_any ((unhide HO).below staysS hW).pf (unhide HENV W ((unhide HF).trans (Fr.of_below hW))).2.2.2.1.lpf (unhide HB2').1 (unhide HB2').2 (unhide HNN).2.2.1 (unhide HNN).2.2.2 (unhide HAK).2 (unhide HKB)
      have HSGW : Hid (∀ W, Below wr.heap.size wr W → Calls Try.prog 11 #[.agg #[.slice ga M gc], .agg #[.slice wa M wc]] W fun e w' => e = .returned (.bool true) ∧ Below W.heap.size W w') := fun W hW => unhide HSG0 W ((unhide HF).trans (Fr.of_below hW))
      have HFW : Hid (∀ W, Below wr.heap.size wr W → Below w.heap.size w W) := fun W hW => (unhide HENV W ((unhide HF).trans (Fr.of_below hW))).2.2.2.2.2.2
      clear hP hF hO hA hK2 HO HF HAK HENV HSG0 HXB HO1
      go_wp2_with fail
      clear e0 e1 e2 e3 e4 e5 zz
      refine wp_region_held_drew (S := (fun W => W.cell? ⟨w1.heap.size, 0, none⟩ = some (.slice xa i xc) ∧ W.cell? ⟨w.heap.size + 1, 0, none⟩ = some (.slice b LB bcap))) (by kernel_rfl) (unhide HS14 _ (bl_drew _)) (fun hHeld => ?_)
      clear hHeld
      refine wpAnyH_take (i := 0) (oi := _) (v := .agg #[.slice xa i xc]) rfl (by kernel_rfl) (by kernel_rfl) (by kernel_rfl) (fun _ _ _ h => h) (Or.inl ⟨by rfl, (by intro w' hSw; obtain ⟨s0, s1⟩ := hSw; go_simp)⟩) (unhide HS14 _ (bl_drew _)) ?_
      go_simp
      refine wpAnyH_take (i := 2) (oi := _) (v := .agg #[.slice b LB bcap]) rfl (by kernel_rfl) (by kernel_rfl) (by kernel_rfl) (fun _ _ _ h => h) (Or.inl ⟨by rfl, (by intro w' hSw; obtain ⟨s0, s1⟩ := hSw; go_simp)⟩) (unhide HS14 _ (bl_drew _)) ?_
      go_simp
      refine wpAnyH_ready (rs := [1, 4]) (by kernel_rfl) (by simp) ?_
      refine AllReadyH.cons (o := _) rfl (fun K hK => ?_) (AllReadyH.cons (o := _) rfl (fun K hK => ?_) AllReadyH.nil)
      · go_simp
        refine (unhide HC12 _ (bl_drew _)).mono ?_
        rintro e v8 ⟨cv, cs, rfl, O8, b8⟩
        obtain ⟨ca, cc, ec, _, _⟩ := O8.row.shape
        rw [unhide HL2] at ec
        subst ec
        have HO8 := hide O8
        have HB8 := hide b8
        clear O8 b8
        go_simp
        refine hK.out _ _ (unhide HS14 _ (bl_past (bl_drew _) (unhide HB8))) (fun _ => ?_)
        clear hK K
        go_simp
        refine wpAnyH_ready (rs := [3, 4]) (by kernel_rfl) (by simp) ?_
        refine AllReadyH.cons (o := _) rfl (fun K hK => ?_) (AllReadyH.cons (o := _) rfl (fun K hK => ?_) AllReadyH.nil)
        · go_simp
          refine (unhide HR9 _ _ (bl_past (bl_drew _) (unhide HB8)) (unhide HO8).pf).mono ?_
          rintro e v9 ⟨nv, ns, rfl, O9, b9⟩
          obtain ⟨na, nc, en, _, _⟩ := O9.row.shape
          rw [unhide HML2] at en
          subst en
          have HO9 := hide O9
          have HB9 := hide b9
          clear O9 b9
          go_simp
          refine hK.out _ _ (unhide HS14 _ (bl_past (bl_past (bl_drew _) (unhide HB8)) (unhide HB9))) (fun _ => ?_)
          clear hK K
          go_simp
          refine wpAnyH_ready (rs := [4]) (by kernel_rfl) (by simp) ?_
          refine AllReadyH.cons (o := _) rfl (fun K hK => ?_) AllReadyH.nil
          go_simp
          refine hK.out _ _ (unhide HS14 _ (bl_past (bl_past (bl_past (bl_drew _) (unhide HB8)) (unhide HB9)) (box4 _ _ _))) (fun _ => ?_)
          clear hK K
          go_simp
          have hB9 : Below wr.heap.size wr v9 := bl_past (bl_past (bl_drew _) (unhide HB8)) (unhide HB9)
          have hBZ : Below wr.heap.size wr (v9.alloc (.cells #[.slice na M nc] 24)) := bl_past hB9 (box4 _ _ _)
          have hbz := heap_alloc_new v9 (.cells #[.slice na M nc] 24)
          have hcz : (v9.alloc (.cells #[.slice na M nc] 24)).cell? ⟨v9.heap.size, 0, none⟩ = some (.slice na M nc) := (blk_cells hbz).1 0
          have hzn : v9.heap.size < (v9.alloc (.cells #[.slice na M nc] 24)).heap.size := (blk_cells hbz).2.2
          have HON : Hid (SO (fun k => v8.heap.size ≤ k) (v9.alloc (.cells #[.slice na M nc] 24)) (.slice na M nc) (mrg f2 g) ns) := (unhide HO9).below staysS (box4 _ _ _)
          clear hbz hB9
          refine wpAnyH_ready (rs := [5]) (by kernel_rfl) (by simp) ?_
          refine AllReadyH.cons (o := _) rfl (fun K hK => ?_) AllReadyH.nil
          go_simp
          refine hK.out _ _ ((fun hBZ => unhide HS14 _ hBZ) hBZ) (fun _ => ?_)
          clear hK K
          go_simp
          refine wpAnyH_done (by kernel_rfl) ?_ _
          have HS15 : Hid (∀ W, Below (v9.alloc (.cells #[.slice na M nc] 24)).heap.size (v9.alloc (.cells #[.slice na M nc] 24)) W → W.cell? ⟨w1.heap.size, 0, none⟩ = some (.slice xa i xc) ∧ W.cell? ⟨w2.heap.size, 0, none⟩ = some (.slice ya LB yc) ∧ W.cell? ⟨w4.heap.size, 0, none⟩ = some (.slice ga M gc) ∧ W.cell? ⟨w3.heap.size, 0, none⟩ = some (.slice wa M wc) ∧ W.cell? ⟨v9.heap.size, 0, none⟩ = some (.slice na M nc)) := fun W hW => by
            have e := unhide HE2 W (bl_past hBZ hW)
            exact ⟨e.1, e.2.2.1, e.2.2.2.1, e.2.2.2.2.1, (hW.cell (p := ⟨v9.heap.size, 0, none⟩) hzn).trans hcz⟩
          have HMX : Hid (∀ W, Below (v9.alloc (.cells #[.slice na M nc] 24)).heap.size (v9.alloc (.cells #[.slice na M nc] 24)) W → Calls Try.prog 10 #[.agg #[.slice xa i xc], .agg #[.slice ya LB yc]] W fun e w' => ∃ gv vs, e = .returned (.agg #[gv]) ∧ SO (fun k => W.heap.size ≤ k) w' gv (mrg f2 g) vs ∧ Below W.heap.size W w') := fun W hW => unhide HMXY W (bl_past hBZ hW)
          have HSN : Hid (∀ (W : World) (v : Value), Below (v9.alloc (.cells #[.slice na M nc] 24)).heap.size (v9.alloc (.cells #[.slice na M nc] 24)) W → PfV W v (mrg f2 g) → Calls Try.prog 11 #[.agg #[v], .agg #[.slice na M nc]] W fun e w' => e = .returned (.bool true) ∧ Below W.heap.size W w') := fun W v hW hv => by
            have := sameP_any hv ((unhide HON).pf.below hW (Nat.le_refl _))
            rw [Dc_true rfl] at this
            exact this
          have HSG : Hid (∀ W, Below (v9.alloc (.cells #[.slice na M nc] 24)).heap.size (v9.alloc (.cells #[.slice na M nc] 24)) W → Calls Try.prog 11 #[.agg #[.slice ga M gc], .agg #[.slice wa M wc]] W fun e w' => e = .returned (.bool true) ∧ Below W.heap.size W w') := fun W hW => unhide HSGW W (bl_past hBZ hW)
          have HFI : Hid (∀ W, Below (v9.alloc (.cells #[.slice na M nc] 24)).heap.size (v9.alloc (.cells #[.slice na M nc] 24)) W → Below w.heap.size w W) := fun W hW => unhide HFW W (bl_past hBZ hW)
          obtain ⟨ZZ, hZZ⟩ : ∃ ZZ, Hid ((v9.alloc (.cells #[.slice na M nc] 24)) = ZZ) := ⟨_, hide rfl⟩
          rw [unhide hZZ] at HS15 HMX HSN HSG HFI ⊢
          clear hcz hzn hBZ HON
          go_wp2_with fail
          refine wp_region_held_drew (S := (fun W => W.cell? ⟨w1.heap.size, 0, none⟩ = some (.slice xa i xc) ∧ W.cell? ⟨w2.heap.size, 0, none⟩ = some (.slice ya LB yc) ∧ W.cell? ⟨w4.heap.size, 0, none⟩ = some (.slice ga M gc) ∧ W.cell? ⟨w3.heap.size, 0, none⟩ = some (.slice wa M wc) ∧ W.cell? ⟨v9.heap.size, 0, none⟩ = some (.slice na M nc))) (by kernel_rfl) (unhide HS15 _ (bl_drew _)) (fun hHeld => ?_)
          clear hHeld
          refine wpAnyH_take (i := 0) (oi := _) (v := .agg #[.slice xa i xc]) rfl (by kernel_rfl) (by kernel_rfl) (by kernel_rfl) (fun _ _ _ h => h) (Or.inl ⟨by rfl, (by intro w' hSw; obtain ⟨s0, s1, s2, s3, s4⟩ := hSw; go_simp)⟩) (unhide HS15 _ (bl_drew _)) ?_
          go_simp
          refine wpAnyH_take (i := 1) (oi := _) (v := .agg #[.slice ya LB yc]) rfl (by kernel_rfl) (by kernel_rfl) (by kernel_rfl) (fun _ _ _ h => h) (Or.inl ⟨by rfl, (by intro w' hSw; obtain ⟨s0, s1, s2, s3, s4⟩ := hSw; go_simp)⟩) (unhide HS15 _ (bl_drew _)) ?_
          go_simp
          refine wpAnyH_take (i := 3) (oi := _) (v := .agg #[.slice na M nc]) rfl (by kernel_rfl) (by kernel_rfl) (by kernel_rfl) (fun _ _ _ h => h) (Or.inl ⟨by rfl, (by intro w' hSw; obtain ⟨s0, s1, s2, s3, s4⟩ := hSw; go_simp)⟩) (unhide HS15 _ (bl_drew _)) ?_
          go_simp
          refine wpAnyH_ready (rs := [2]) (by kernel_rfl) (by simp) ?_
          refine AllReadyH.cons (o := _) rfl (fun K hK => ?_) AllReadyH.nil
          go_simp
          refine (unhide HMX _ (bl_drew _)).mono ?_
          rintro e v2 ⟨mv, ms, rfl, O2, b2⟩
          obtain ⟨ma, mc, em, _, _⟩ := O2.row.shape
          rw [unhide HML2] at em
          subst em
          have HB2 := hide (bl_past (bl_drew _) b2)
          have HO2 := hide O2
          clear O2 b2
          go_simp
          refine hK.out _ _ (unhide HS15 _ (unhide HB2)) (fun _ => ?_)
          clear hK K
          go_simp
          refine wpAnyH_ready (rs := [4]) (by kernel_rfl) (by simp) ?_
          refine AllReadyH.cons (o := _) rfl (fun K hK => ?_) AllReadyH.nil
          go_simp
          refine (unhide HSN _ _ (unhide HB2) (unhide HO2).pf).mono ?_
          rintro e v3 ⟨rfl, b3⟩
          have HB3 := hide (bl_past (unhide HB2) b3)
          clear b3
          go_simp
          refine hK.out _ _ (unhide HS15 _ (unhide HB3)) (fun _ => ?_)
          clear hK K
          go_simp
          refine wpAnyH_take (i := 5) (oi := _) (v := .bool true) rfl (by kernel_rfl) (by kernel_rfl) (by kernel_rfl) (fun _ _ _ h => h) (Or.inl ⟨by rfl, (by intro w' hSw; obtain ⟨s0, s1, s2, s3, s4⟩ := hSw; go_simp)⟩) (unhide HS15 _ (unhide HB3)) ?_
          go_simp
          refine wpAnyH_take (i := 6) (oi := _) (v := .agg #[.slice ga M gc]) rfl (by kernel_rfl) (by kernel_rfl) (by kernel_rfl) (fun _ _ _ h => h) (Or.inl ⟨by rfl, (by intro w' hSw; obtain ⟨s0, s1, s2, s3, s4⟩ := hSw; go_simp)⟩) (unhide HS15 _ (unhide HB3)) ?_
          go_simp
          refine wpAnyH_take (i := 7) (oi := _) (v := .agg #[.slice wa M wc]) rfl (by kernel_rfl) (by kernel_rfl) (by kernel_rfl) (fun _ _ _ h => h) (Or.inl ⟨by rfl, (by intro w' hSw; obtain ⟨s0, s1, s2, s3, s4⟩ := hSw; go_simp)⟩) (unhide HS15 _ (unhide HB3)) ?_
          go_simp
          refine wpAnyH_ready (rs := [8]) (by kernel_rfl) (by simp) ?_
          refine AllReadyH.cons (o := _) rfl (fun K hK => ?_) AllReadyH.nil
          go_simp
          refine (unhide HSG _ (unhide HB3)).mono ?_
          rintro e v4 ⟨rfl, b4⟩
          have HB4' := hide (bl_past (unhide HB3) b4)
          clear b4
          go_simp
          refine hK.out _ _ (unhide HS15 _ (unhide HB4')) (fun _ => ?_)
          clear hK K
          go_simp
          refine wpAnyH_take (i := 9) (oi := _) (v := .bool true) rfl (by kernel_rfl) (by kernel_rfl) (by kernel_rfl) (fun _ _ _ h => h) (Or.inl ⟨by rfl, (by intro w' hSw; obtain ⟨s0, s1, s2, s3, s4⟩ := hSw; go_simp)⟩) (unhide HS15 _ (unhide HB4')) ?_
          go_simp
          refine wpAnyH_take (i := 10) (oi := _) (v := .bool true) rfl (by kernel_rfl) (by kernel_rfl) (by kernel_rfl) (fun _ _ _ h => h) (Or.inl ⟨by rfl, (by intro w' hSw; obtain ⟨s0, s1, s2, s3, s4⟩ := hSw; go_simp)⟩) (unhide HS15 _ (unhide HB4')) ?_
          go_simp
          refine wpAnyH_done (by kernel_rfl) ?_ _
          go_wp2_with fail
          go_ret
          exact ⟨rfl, unhide HFI _ (unhide HB4')⟩
        · go_simp
          refine hK.out _ _ (unhide HS14 _ (bl_past (bl_past (bl_drew _) (unhide HB8)) (box4 _ _ _))) (fun _ => ?_)
          clear hK K
          go_simp
          refine wpAnyH_ready (rs := [3]) (by kernel_rfl) (by simp) ?_
          refine AllReadyH.cons (o := _) rfl (fun K hK => ?_) AllReadyH.nil
          go_simp
          refine (unhide HR9 _ _ (bl_past (bl_past (bl_drew _) (unhide HB8)) (box4 _ _ _)) ((unhide HO8).pf.below (box4 _ _ _) (Nat.le_refl _))).mono ?_
          rintro e v9 ⟨nv, ns, rfl, O9, b9⟩
          obtain ⟨na, nc, en, _, _⟩ := O9.row.shape
          rw [unhide HML2] at en
          subst en
          have HO9 := hide O9
          have HB9 := hide b9
          clear O9 b9
          go_simp
          refine hK.out _ _ (unhide HS14 _ (bl_past (bl_past (bl_past (bl_drew _) (unhide HB8)) (box4 _ _ _)) (unhide HB9))) (fun _ => ?_)
          clear hK K
          go_simp
          have hbx : v9.heap[v8.heap.size]? = some (.cells #[.slice none 0 0] 24) := ((unhide HB9).block _ (by simp)).trans (heap_alloc_new _ _)
          obtain ⟨hcc, hff, hz⟩ := blk_cells hbx
          have y0 := hcc 0
          have y1 := hff 0
          simp at y0
          have hfz : Fr (fun k => k = v8.heap.size) v9 (v9.setCell ⟨v8.heap.size, 0, none⟩ (.slice na M nc)) := Fr.setCell (S := fun k => k = v8.heap.size) (Fr.refl _ _) _ (.inr rfl) _
          have hB8 : Below wr.heap.size wr v8 := bl_past (bl_drew _) (unhide HB8)
          have hBw : Below wr.heap.size wr v9 := bl_past (bl_past hB8 (box4 _ #[.slice none 0 0] 24)) (unhide HB9)
          have h88 := hB8.size
          have hBZ : Below wr.heap.size wr (v9.setCell ⟨v8.heap.size, 0, none⟩ (.slice na M nc)) := hBw.trans (hfz.below hBw.size (fun k hk e => by omega))
          have hcz : (v9.setCell ⟨v8.heap.size, 0, none⟩ (.slice na M nc)).cell? ⟨v8.heap.size, 0, none⟩ = some (.slice na M nc) := (blk_cells ((setCell_block hbx (.slice na M nc)).trans rfl)).1 0
          have hzn : v8.heap.size < (v9.setCell ⟨v8.heap.size, 0, none⟩ (.slice na M nc)).heap.size := Nat.lt_of_lt_of_le hz hfz.size
          have HON : Hid (SO (fun k => v8.heap.size + 1 ≤ k) (v9.setCell ⟨v8.heap.size, 0, none⟩ (.slice na M nc)) (.slice na M nc) (mrg f2 g) ns) := ((unhide HO9).mono (fun k _ hk => by simpa using hk)).frZ staysS hfz (fun k _ hk e => by omega)
          clear hcc hff hbx hfz hBw hB8 h88
          refine wpAnyH_ready (rs := [5]) (by kernel_rfl) (by simp) ?_
          refine AllReadyH.cons (o := _) rfl (fun K hK => ?_) AllReadyH.nil
          go_simp
          refine hK.out _ _ ((fun hBZ => unhide HS14 _ hBZ) hBZ) (fun _ => ?_)
          clear hK K
          go_simp
          refine wpAnyH_done (by kernel_rfl) ?_ _
          have HS15 : Hid (∀ W, Below (v9.setCell ⟨v8.heap.size, 0, none⟩ (.slice na M nc)).heap.size (v9.setCell ⟨v8.heap.size, 0, none⟩ (.slice na M nc)) W → W.cell? ⟨w1.heap.size, 0, none⟩ = some (.slice xa i xc) ∧ W.cell? ⟨w2.heap.size, 0, none⟩ = some (.slice ya LB yc) ∧ W.cell? ⟨w4.heap.size, 0, none⟩ = some (.slice ga M gc) ∧ W.cell? ⟨w3.heap.size, 0, none⟩ = some (.slice wa M wc) ∧ W.cell? ⟨v8.heap.size, 0, none⟩ = some (.slice na M nc)) := fun W hW => by
            have e := unhide HE2 W (bl_past hBZ hW)
            exact ⟨e.1, e.2.2.1, e.2.2.2.1, e.2.2.2.2.1, (hW.cell (p := ⟨v8.heap.size, 0, none⟩) hzn).trans hcz⟩
          have HMX : Hid (∀ W, Below (v9.setCell ⟨v8.heap.size, 0, none⟩ (.slice na M nc)).heap.size (v9.setCell ⟨v8.heap.size, 0, none⟩ (.slice na M nc)) W → Calls Try.prog 10 #[.agg #[.slice xa i xc], .agg #[.slice ya LB yc]] W fun e w' => ∃ gv vs, e = .returned (.agg #[gv]) ∧ SO (fun k => W.heap.size ≤ k) w' gv (mrg f2 g) vs ∧ Below W.heap.size W w') := fun W hW => unhide HMXY W (bl_past hBZ hW)
          have HSN : Hid (∀ (W : World) (v : Value), Below (v9.setCell ⟨v8.heap.size, 0, none⟩ (.slice na M nc)).heap.size (v9.setCell ⟨v8.heap.size, 0, none⟩ (.slice na M nc)) W → PfV W v (mrg f2 g) → Calls Try.prog 11 #[.agg #[v], .agg #[.slice na M nc]] W fun e w' => e = .returned (.bool true) ∧ Below W.heap.size W w') := fun W v hW hv => by
            have := sameP_any hv ((unhide HON).pf.below hW (Nat.le_refl _))
            rw [Dc_true rfl] at this
            exact this
          have HSG : Hid (∀ W, Below (v9.setCell ⟨v8.heap.size, 0, none⟩ (.slice na M nc)).heap.size (v9.setCell ⟨v8.heap.size, 0, none⟩ (.slice na M nc)) W → Calls Try.prog 11 #[.agg #[.slice ga M gc], .agg #[.slice wa M wc]] W fun e w' => e = .returned (.bool true) ∧ Below W.heap.size W w') := fun W hW => unhide HSGW W (bl_past hBZ hW)
          have HFI : Hid (∀ W, Below (v9.setCell ⟨v8.heap.size, 0, none⟩ (.slice na M nc)).heap.size (v9.setCell ⟨v8.heap.size, 0, none⟩ (.slice na M nc)) W → Below w.heap.size w W) := fun W hW => unhide HFW W (bl_past hBZ hW)
          obtain ⟨ZZ, hZZ⟩ : ∃ ZZ, Hid ((v9.setCell ⟨v8.heap.size, 0, none⟩ (.slice na M nc)) = ZZ) := ⟨_, hide rfl⟩
          rw [unhide hZZ] at HS15 HMX HSN HSG HFI ⊢
          clear hcz hzn hBZ HON
          go_wp2_with fail
          refine wp_region_held_drew (S := (fun W => W.cell? ⟨w1.heap.size, 0, none⟩ = some (.slice xa i xc) ∧ W.cell? ⟨w2.heap.size, 0, none⟩ = some (.slice ya LB yc) ∧ W.cell? ⟨w4.heap.size, 0, none⟩ = some (.slice ga M gc) ∧ W.cell? ⟨w3.heap.size, 0, none⟩ = some (.slice wa M wc) ∧ W.cell? ⟨v8.heap.size, 0, none⟩ = some (.slice na M nc))) (by kernel_rfl) (unhide HS15 _ (bl_drew _)) (fun hHeld => ?_)
          clear hHeld
          refine wpAnyH_take (i := 0) (oi := _) (v := .agg #[.slice xa i xc]) rfl (by kernel_rfl) (by kernel_rfl) (by kernel_rfl) (fun _ _ _ h => h) (Or.inl ⟨by rfl, (by intro w' hSw; obtain ⟨s0, s1, s2, s3, s4⟩ := hSw; go_simp)⟩) (unhide HS15 _ (bl_drew _)) ?_
          go_simp
          refine wpAnyH_take (i := 1) (oi := _) (v := .agg #[.slice ya LB yc]) rfl (by kernel_rfl) (by kernel_rfl) (by kernel_rfl) (fun _ _ _ h => h) (Or.inl ⟨by rfl, (by intro w' hSw; obtain ⟨s0, s1, s2, s3, s4⟩ := hSw; go_simp)⟩) (unhide HS15 _ (bl_drew _)) ?_
          go_simp
          refine wpAnyH_take (i := 3) (oi := _) (v := .agg #[.slice na M nc]) rfl (by kernel_rfl) (by kernel_rfl) (by kernel_rfl) (fun _ _ _ h => h) (Or.inl ⟨by rfl, (by intro w' hSw; obtain ⟨s0, s1, s2, s3, s4⟩ := hSw; go_simp)⟩) (unhide HS15 _ (bl_drew _)) ?_
          go_simp
          refine wpAnyH_ready (rs := [2]) (by kernel_rfl) (by simp) ?_
          refine AllReadyH.cons (o := _) rfl (fun K hK => ?_) AllReadyH.nil
          go_simp
          refine (unhide HMX _ (bl_drew _)).mono ?_
          rintro e v2 ⟨mv, ms, rfl, O2, b2⟩
          obtain ⟨ma, mc, em, _, _⟩ := O2.row.shape
          rw [unhide HML2] at em
          subst em
          have HB2 := hide (bl_past (bl_drew _) b2)
          have HO2 := hide O2
          clear O2 b2
          go_simp
          refine hK.out _ _ (unhide HS15 _ (unhide HB2)) (fun _ => ?_)
          clear hK K
          go_simp
          refine wpAnyH_ready (rs := [4]) (by kernel_rfl) (by simp) ?_
          refine AllReadyH.cons (o := _) rfl (fun K hK => ?_) AllReadyH.nil
          go_simp
          refine (unhide HSN _ _ (unhide HB2) (unhide HO2).pf).mono ?_
          rintro e v3 ⟨rfl, b3⟩
          have HB3 := hide (bl_past (unhide HB2) b3)
          clear b3
          go_simp
          refine hK.out _ _ (unhide HS15 _ (unhide HB3)) (fun _ => ?_)
          clear hK K
          go_simp
          refine wpAnyH_take (i := 5) (oi := _) (v := .bool true) rfl (by kernel_rfl) (by kernel_rfl) (by kernel_rfl) (fun _ _ _ h => h) (Or.inl ⟨by rfl, (by intro w' hSw; obtain ⟨s0, s1, s2, s3, s4⟩ := hSw; go_simp)⟩) (unhide HS15 _ (unhide HB3)) ?_
          go_simp
          refine wpAnyH_take (i := 6) (oi := _) (v := .agg #[.slice ga M gc]) rfl (by kernel_rfl) (by kernel_rfl) (by kernel_rfl) (fun _ _ _ h => h) (Or.inl ⟨by rfl, (by intro w' hSw; obtain ⟨s0, s1, s2, s3, s4⟩ := hSw; go_simp)⟩) (unhide HS15 _ (unhide HB3)) ?_
          go_simp
          refine wpAnyH_take (i := 7) (oi := _) (v := .agg #[.slice wa M wc]) rfl (by kernel_rfl) (by kernel_rfl) (by kernel_rfl) (fun _ _ _ h => h) (Or.inl ⟨by rfl, (by intro w' hSw; obtain ⟨s0, s1, s2, s3, s4⟩ := hSw; go_simp)⟩) (unhide HS15 _ (unhide HB3)) ?_
          go_simp
          refine wpAnyH_ready (rs := [8]) (by kernel_rfl) (by simp) ?_
          refine AllReadyH.cons (o := _) rfl (fun K hK => ?_) AllReadyH.nil
          go_simp
          refine (unhide HSG _ (unhide HB3)).mono ?_
          rintro e v4 ⟨rfl, b4⟩
          have HB4' := hide (bl_past (unhide HB3) b4)
          clear b4
          go_simp
          refine hK.out _ _ (unhide HS15 _ (unhide HB4')) (fun _ => ?_)
          clear hK K
          go_simp
          refine wpAnyH_take (i := 9) (oi := _) (v := .bool true) rfl (by kernel_rfl) (by kernel_rfl) (by kernel_rfl) (fun _ _ _ h => h) (Or.inl ⟨by rfl, (by intro w' hSw; obtain ⟨s0, s1, s2, s3, s4⟩ := hSw; go_simp)⟩) (unhide HS15 _ (unhide HB4')) ?_
          go_simp
          refine wpAnyH_take (i := 10) (oi := _) (v := .bool true) rfl (by kernel_rfl) (by kernel_rfl) (by kernel_rfl) (fun _ _ _ h => h) (Or.inl ⟨by rfl, (by intro w' hSw; obtain ⟨s0, s1, s2, s3, s4⟩ := hSw; go_simp)⟩) (unhide HS15 _ (unhide HB4')) ?_
          go_simp
          refine wpAnyH_done (by kernel_rfl) ?_ _
          go_wp2_with fail
          go_ret
          exact ⟨rfl, unhide HFI _ (unhide HB4')⟩
      · go_simp
        refine hK.out _ _ (unhide HS14 _ (bl_past (bl_drew _) (box4 _ _ _))) (fun _ => ?_)
        clear hK K
        go_simp
        refine wpAnyH_ready (rs := [1]) (by kernel_rfl) (by simp) ?_
        refine AllReadyH.cons (o := _) rfl (fun K hK => ?_) AllReadyH.nil
        go_simp
        refine (unhide HC12 _ (bl_past (bl_drew _) (box4 _ _ _))).mono ?_
        rintro e v8 ⟨cv, cs, rfl, O8, b8⟩
        obtain ⟨ca, cc, ec, _, _⟩ := O8.row.shape
        rw [unhide HL2] at ec
        subst ec
        have HO8 := hide O8
        have HB8 := hide b8
        clear O8 b8
        go_simp
        refine hK.out _ _ (unhide HS14 _ (bl_past (bl_past (bl_drew _) (box4 _ _ _)) (unhide HB8))) (fun _ => ?_)
        clear hK K
        go_simp
        refine wpAnyH_ready (rs := [3]) (by kernel_rfl) (by simp) ?_
        refine AllReadyH.cons (o := _) rfl (fun K hK => ?_) AllReadyH.nil
        go_simp
        refine (unhide HR9 _ _ (bl_past (bl_past (bl_drew _) (box4 _ _ _)) (unhide HB8)) (unhide HO8).pf).mono ?_
        rintro e v9 ⟨nv, ns, rfl, O9, b9⟩
        obtain ⟨na, nc, en, _, _⟩ := O9.row.shape
        rw [unhide HML2] at en
        subst en
        have HO9 := hide O9
        have HB9 := hide b9
        clear O9 b9
        go_simp
        refine hK.out _ _ (unhide HS14 _ (bl_past (bl_past (bl_past (bl_drew _) (box4 _ _ _)) (unhide HB8)) (unhide HB9))) (fun _ => ?_)
        clear hK K
        go_simp
        have f8 := bl_past (unhide HB8) (unhide HB9)
        have hbx : v9.heap[wr.heap.size]? = some (.cells #[.slice none 0 0] 24) := (f8.block _ (by simp)).trans (heap_alloc_new wr.drew _)
        obtain ⟨hcc, hff, hz⟩ := blk_cells hbx
        have y0 := hcc 0
        have y1 := hff 0
        simp at y0
        have hfz : Fr (fun k => k = wr.heap.size) v9 (v9.setCell ⟨wr.heap.size, 0, none⟩ (.slice na M nc)) := Fr.setCell (S := fun k => k = wr.heap.size) (Fr.refl _ _) _ (.inr rfl) _
        have hBw : Below wr.heap.size wr v9 := bl_past (bl_past (bl_drew _) (box4 _ #[.slice none 0 0] 24)) f8
        have hBZ : Below wr.heap.size wr (v9.setCell ⟨wr.heap.size, 0, none⟩ (.slice na M nc)) := hBw.trans (hfz.below hBw.size (fun k hk e => by omega))
        have hcz : (v9.setCell ⟨wr.heap.size, 0, none⟩ (.slice na M nc)).cell? ⟨wr.heap.size, 0, none⟩ = some (.slice na M nc) := (blk_cells ((setCell_block hbx (.slice na M nc)).trans rfl)).1 0
        have hzn : wr.heap.size < (v9.setCell ⟨wr.heap.size, 0, none⟩ (.slice na M nc)).heap.size := Nat.lt_of_lt_of_le hz hfz.size
        have HON : Hid (SO (fun k => v8.heap.size ≤ k) (v9.setCell ⟨wr.heap.size, 0, none⟩ (.slice na M nc)) (.slice na M nc) (mrg f2 g) ns) := (unhide HO9).frZ staysS hfz (fun k _ hk e => by
          have h1 := (unhide HB8).size
          simp at h1
          omega)
        clear hcc hff hbx f8 hfz hBw
        refine wpAnyH_ready (rs := [5]) (by kernel_rfl) (by simp) ?_
        refine AllReadyH.cons (o := _) rfl (fun K hK => ?_) AllReadyH.nil
        go_simp
        refine hK.out _ _ ((fun hBZ => unhide HS14 _ hBZ) hBZ) (fun _ => ?_)
        clear hK K
        go_simp
        refine wpAnyH_done (by kernel_rfl) ?_ _
        have HS15 : Hid (∀ W, Below (v9.setCell ⟨wr.heap.size, 0, none⟩ (.slice na M nc)).heap.size (v9.setCell ⟨wr.heap.size, 0, none⟩ (.slice na M nc)) W → W.cell? ⟨w1.heap.size, 0, none⟩ = some (.slice xa i xc) ∧ W.cell? ⟨w2.heap.size, 0, none⟩ = some (.slice ya LB yc) ∧ W.cell? ⟨w4.heap.size, 0, none⟩ = some (.slice ga M gc) ∧ W.cell? ⟨w3.heap.size, 0, none⟩ = some (.slice wa M wc) ∧ W.cell? ⟨wr.heap.size, 0, none⟩ = some (.slice na M nc)) := fun W hW => by
          have e := unhide HE2 W (bl_past hBZ hW)
          exact ⟨e.1, e.2.2.1, e.2.2.2.1, e.2.2.2.2.1, (hW.cell (p := ⟨wr.heap.size, 0, none⟩) hzn).trans hcz⟩
        have HMX : Hid (∀ W, Below (v9.setCell ⟨wr.heap.size, 0, none⟩ (.slice na M nc)).heap.size (v9.setCell ⟨wr.heap.size, 0, none⟩ (.slice na M nc)) W → Calls Try.prog 10 #[.agg #[.slice xa i xc], .agg #[.slice ya LB yc]] W fun e w' => ∃ gv vs, e = .returned (.agg #[gv]) ∧ SO (fun k => W.heap.size ≤ k) w' gv (mrg f2 g) vs ∧ Below W.heap.size W w') := fun W hW => unhide HMXY W (bl_past hBZ hW)
        have HSN : Hid (∀ (W : World) (v : Value), Below (v9.setCell ⟨wr.heap.size, 0, none⟩ (.slice na M nc)).heap.size (v9.setCell ⟨wr.heap.size, 0, none⟩ (.slice na M nc)) W → PfV W v (mrg f2 g) → Calls Try.prog 11 #[.agg #[v], .agg #[.slice na M nc]] W fun e w' => e = .returned (.bool true) ∧ Below W.heap.size W w') := fun W v hW hv => by
          have := sameP_any hv ((unhide HON).pf.below hW (Nat.le_refl _))
          rw [Dc_true rfl] at this
          exact this
        have HSG : Hid (∀ W, Below (v9.setCell ⟨wr.heap.size, 0, none⟩ (.slice na M nc)).heap.size (v9.setCell ⟨wr.heap.size, 0, none⟩ (.slice na M nc)) W → Calls Try.prog 11 #[.agg #[.slice ga M gc], .agg #[.slice wa M wc]] W fun e w' => e = .returned (.bool true) ∧ Below W.heap.size W w') := fun W hW => unhide HSGW W (bl_past hBZ hW)
        have HFI : Hid (∀ W, Below (v9.setCell ⟨wr.heap.size, 0, none⟩ (.slice na M nc)).heap.size (v9.setCell ⟨wr.heap.size, 0, none⟩ (.slice na M nc)) W → Below w.heap.size w W) := fun W hW => unhide HFW W (bl_past hBZ hW)
        obtain ⟨ZZ, hZZ⟩ : ∃ ZZ, Hid ((v9.setCell ⟨wr.heap.size, 0, none⟩ (.slice na M nc)) = ZZ) := ⟨_, hide rfl⟩
        rw [unhide hZZ] at HS15 HMX HSN HSG HFI ⊢
        clear hcz hzn hBZ HON
        go_wp2_with fail
        refine wp_region_held_drew (S := (fun W => W.cell? ⟨w1.heap.size, 0, none⟩ = some (.slice xa i xc) ∧ W.cell? ⟨w2.heap.size, 0, none⟩ = some (.slice ya LB yc) ∧ W.cell? ⟨w4.heap.size, 0, none⟩ = some (.slice ga M gc) ∧ W.cell? ⟨w3.heap.size, 0, none⟩ = some (.slice wa M wc) ∧ W.cell? ⟨wr.heap.size, 0, none⟩ = some (.slice na M nc))) (by kernel_rfl) (unhide HS15 _ (bl_drew _)) (fun hHeld => ?_)
        clear hHeld
        refine wpAnyH_take (i := 0) (oi := _) (v := .agg #[.slice xa i xc]) rfl (by kernel_rfl) (by kernel_rfl) (by kernel_rfl) (fun _ _ _ h => h) (Or.inl ⟨by rfl, (by intro w' hSw; obtain ⟨s0, s1, s2, s3, s4⟩ := hSw; go_simp)⟩) (unhide HS15 _ (bl_drew _)) ?_
        go_simp
        refine wpAnyH_take (i := 1) (oi := _) (v := .agg #[.slice ya LB yc]) rfl (by kernel_rfl) (by kernel_rfl) (by kernel_rfl) (fun _ _ _ h => h) (Or.inl ⟨by rfl, (by intro w' hSw; obtain ⟨s0, s1, s2, s3, s4⟩ := hSw; go_simp)⟩) (unhide HS15 _ (bl_drew _)) ?_
        go_simp
        refine wpAnyH_take (i := 3) (oi := _) (v := .agg #[.slice na M nc]) rfl (by kernel_rfl) (by kernel_rfl) (by kernel_rfl) (fun _ _ _ h => h) (Or.inl ⟨by rfl, (by intro w' hSw; obtain ⟨s0, s1, s2, s3, s4⟩ := hSw; go_simp)⟩) (unhide HS15 _ (bl_drew _)) ?_
        go_simp
        refine wpAnyH_ready (rs := [2]) (by kernel_rfl) (by simp) ?_
        refine AllReadyH.cons (o := _) rfl (fun K hK => ?_) AllReadyH.nil
        go_simp
        refine (unhide HMX _ (bl_drew _)).mono ?_
        rintro e v2 ⟨mv, ms, rfl, O2, b2⟩
        obtain ⟨ma, mc, em, _, _⟩ := O2.row.shape
        rw [unhide HML2] at em
        subst em
        have HB2 := hide (bl_past (bl_drew _) b2)
        have HO2 := hide O2
        clear O2 b2
        go_simp
        refine hK.out _ _ (unhide HS15 _ (unhide HB2)) (fun _ => ?_)
        clear hK K
        go_simp
        refine wpAnyH_ready (rs := [4]) (by kernel_rfl) (by simp) ?_
        refine AllReadyH.cons (o := _) rfl (fun K hK => ?_) AllReadyH.nil
        go_simp
        refine (unhide HSN _ _ (unhide HB2) (unhide HO2).pf).mono ?_
        rintro e v3 ⟨rfl, b3⟩
        have HB3 := hide (bl_past (unhide HB2) b3)
        clear b3
        go_simp
        refine hK.out _ _ (unhide HS15 _ (unhide HB3)) (fun _ => ?_)
        clear hK K
        go_simp
        refine wpAnyH_take (i := 5) (oi := _) (v := .bool true) rfl (by kernel_rfl) (by kernel_rfl) (by kernel_rfl) (fun _ _ _ h => h) (Or.inl ⟨by rfl, (by intro w' hSw; obtain ⟨s0, s1, s2, s3, s4⟩ := hSw; go_simp)⟩) (unhide HS15 _ (unhide HB3)) ?_
        go_simp
        refine wpAnyH_take (i := 6) (oi := _) (v := .agg #[.slice ga M gc]) rfl (by kernel_rfl) (by kernel_rfl) (by kernel_rfl) (fun _ _ _ h => h) (Or.inl ⟨by rfl, (by intro w' hSw; obtain ⟨s0, s1, s2, s3, s4⟩ := hSw; go_simp)⟩) (unhide HS15 _ (unhide HB3)) ?_
        go_simp
        refine wpAnyH_take (i := 7) (oi := _) (v := .agg #[.slice wa M wc]) rfl (by kernel_rfl) (by kernel_rfl) (by kernel_rfl) (fun _ _ _ h => h) (Or.inl ⟨by rfl, (by intro w' hSw; obtain ⟨s0, s1, s2, s3, s4⟩ := hSw; go_simp)⟩) (unhide HS15 _ (unhide HB3)) ?_
        go_simp
        refine wpAnyH_ready (rs := [8]) (by kernel_rfl) (by simp) ?_
        refine AllReadyH.cons (o := _) rfl (fun K hK => ?_) AllReadyH.nil
        go_simp
        refine (unhide HSG _ (unhide HB3)).mono ?_
        rintro e v4 ⟨rfl, b4⟩
        have HB4' := hide (bl_past (unhide HB3) b4)
        clear b4
        go_simp
        refine hK.out _ _ (unhide HS15 _ (unhide HB4')) (fun _ => ?_)
        clear hK K
        go_simp
        refine wpAnyH_take (i := 9) (oi := _) (v := .bool true) rfl (by kernel_rfl) (by kernel_rfl) (by kernel_rfl) (fun _ _ _ h => h) (Or.inl ⟨by rfl, (by intro w' hSw; obtain ⟨s0, s1, s2, s3, s4⟩ := hSw; go_simp)⟩) (unhide HS15 _ (unhide HB4')) ?_
        go_simp
        refine wpAnyH_take (i := 10) (oi := _) (v := .bool true) rfl (by kernel_rfl) (by kernel_rfl) (by kernel_rfl) (fun _ _ _ h => h) (Or.inl ⟨by rfl, (by intro w' hSw; obtain ⟨s0, s1, s2, s3, s4⟩ := hSw; go_simp)⟩) (unhide HS15 _ (unhide HB4')) ?_
        go_simp
        refine wpAnyH_done (by kernel_rfl) ?_ _
        go_wp2_with fail
        go_ret
        exact ⟨rfl, unhide HFI _ (unhide HB4')⟩
end Go.Proofs.Yteeafakgiahenaa
