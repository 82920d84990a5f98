/-
  The program's Merge.
-/
import Derived.Test.YtclcebdcdbcpjaaGreatPRm
import Derived.Test.YtclcebdcdbcpjaaGreatPMk
namespace Go.Proofs.YtclcebdcdbcpjaaGreat
open Go.RowKit
set_option linter.unusedVariables false
set_option linter.unusedSimpArgs false
/-- While a profile is laid in: three boxes, the row of lists. -/
structure MS (w : World) (av bv : Value) (m : List (List Sp)) (i : Nat) (vs : List Value) (wr : World) : Prop where
  bl : Below w.heap.size w wr
  b0 : wr.heap[w.heap.size]? = some (.cells #[av] 25)
  b1 : wr.heap[w.heap.size + 1]? = some (.cells #[bv] 25)
  b2 : wr.heap[w.heap.size + 1 + 1]? = some (.cells #[.slice none 0 0] 25)
  ow : SO (fun k => w.heap.size + 3 ≤ k) wr (.slice (some ⟨w.heap.size + 1 + 1 + 1, 0, none⟩) m.length m.length) (fil m [] i) vs
  sz : w.heap.size + 3 < wr.heap.size
theorem MS.on {w : World} {av bv : Value} {m : List (List Sp)} {i : Nat} {vs : List Value} {wr w' : World} (h : MS w av bv m i vs wr) (k : Below wr.heap.size wr w') : MS w av bv m i vs w' := by
  have hs := h.sz
  exact ⟨bl_past h.bl k, (k.block _ (by omega)).trans h.b0, (k.block _ (by omega)).trans h.b1, (k.block _ (by omega)).trans h.b2, h.ow.below staysS k, Nat.lt_of_lt_of_le hs k.size⟩
theorem MS.start (w : World) (av bv : Value) (m : List (List Sp)) (hm : m.length ≤ maxLen) : MS w av bv m 0 (List.replicate m.length (.slice none 0 0)) ((((w.alloc (.cells #[av] 25)).alloc (.cells #[bv] 25)).alloc (.cells #[.slice none 0 0] 25)).alloc (.cells (madeCells (Value.slice none 0 0).cells (m.length * 1)) 64)) := by
  obtain ⟨h1, h2, h3⟩ := blk3 w (.cells #[av] 25) (.cells #[bv] 25) (.cells #[.slice none 0 0] 25)
  have k := box4 (((w.alloc (.cells #[av] 25)).alloc (.cells #[bv] 25)).alloc (.cells #[.slice none 0 0] 25)) (madeCells (Value.slice none 0 0).cells (m.length * 1)) 64
  have hro := made_ro enV (.slice none 0 0) (Value.slice none 0 0).cells 1 zV (by decide) rfl (((w.alloc (.cells #[av] 25)).alloc (.cells #[bv] 25)).alloc (.cells #[.slice none 0 0] 25)) 64 m.length hm
  have hlt : ∀ j, w.heap.size + j < (((w.alloc (.cells #[av] 25)).alloc (.cells #[bv] 25)).alloc (.cells #[.slice none 0 0] 25)).heap.size ↔ j < 3 := fun j => by simp only [World.size_alloc]; omega
  refine ⟨bl_past (bl_three w _ _ _) k, (k.block _ ((hlt 0).2 (by omega))).trans h1, (k.block _ ((hlt 1).2 (by omega))).trans h2, (k.block _ ((hlt 2).2 (by omega))).trans h3, ?_, by simp only [World.size_alloc]; omega⟩
  simp only [World.size_alloc] at hro
  refine ⟨by rw [fil_zero]; simp, by rw [fil_zero, List.length_replicate]; exact hro, fun k hk => by cases hk; exact Nat.le_refl _, fun i u x hu hx => ?_, fun i x k hx hk => ?_, fun i j x y k _ hx _ hk => ?_⟩
  · rw [fil_zero, List.getElem?_replicate] at hu
    rw [List.getElem?_replicate] at hx
    split at hu
    · cases hu
      rename_i h
      rw [if_pos h] at hx
      cases hx
      simpa [SR, flt] using Ro.nil _ 4
    · cases hu
  · rw [List.getElem?_replicate] at hx
    split at hx
    · cases hx; cases hk
    · cases hx
  · rw [List.getElem?_replicate] at hx
    split at hx
    · cases hx; cases hk
    · cases hx
theorem MS.set {w : World} {av bv : Value} {m : List (List Sp)} {i : Nat} {vs : List Value} {wr w1 : World} (h : MS w av bv m i vs wr) {l : List Sp} (hl : m[i]? = some l) (hb : Below wr.heap.size wr w1) {u : Value} (hu : SR w1 l u) (hn : ∀ k, u.ownBlock = some k → wr.heap.size ≤ k ∧ k < w1.heap.size) :
    MS w av bv m (i + 1) (vs.set i u) (w1.setCell ⟨w.heap.size + 1 + 1 + 1, i, none⟩ u) := by
  have h1 := h.on hb
  have hs := h.sz
  have hs1 := h1.sz
  have hi := (List.getElem?_eq_some_iff.1 hl).1
  have hfl : (fil m [] i).length = m.length := fil_len _ _ (by omega)
  have hvl : vs.length = m.length := by have := h1.ow.len; omega
  have hrw := h1.ow.row
  rw [hfl] at hrw
  obtain ⟨r1, r2⟩ := hrw.putAt zV hvl rfl hi u
  rw [show w1.setCells (w.heap.size + 1 + 1 + 1) (0 + i * 1) (enV u) = w1.setCell ⟨w.heap.size + 1 + 1 + 1, i, none⟩ u by rw [Nat.zero_add, Nat.mul_one]; rfl] at r1 r2
  have hs2 := r2.size
  have hbl := h1.bl.size
  refine ⟨h1.bl.trans (r2.below hbl (fun k hk e => by omega)), ?_, ?_, ?_, ?_, Nat.lt_of_lt_of_le hs1 r2.size⟩
  · rw [r2.block _ (by omega) (by omega)]; exact h1.b0
  · rw [r2.block _ (by omega) (by omega)]; exact h1.b1
  · rw [r2.block _ (by omega) (by omega)]; exact h1.b2
  · have := h1.ow.setU staysS (i := i) (u := l) (x := u) (by omega) r2 (fun k e => by rw [e]; rfl) (by rw [hfl]; exact r1) (Ro.fr hu r2 (fun k hk e => by have := (hn k hk).1; omega)) (fun k hk => ⟨by have := (hn k hk).1; omega, Nat.lt_of_lt_of_le (hn k hk).2 r2.size, fun e => absurd (Option.some.inj e) (by have h1 := (hn k hk).1; show ¬ w.heap.size + 1 + 1 + 1 = k; omega)⟩) (fun j z k hj hz hk hk2 => by
      have h2 := (h.ow.eb j z k hz hk2).2.1
      have h3 := (hn k hk).1
      omega)
    rw [fil_set _ hl] at this
    exact this
set_option maxRecDepth 100000 in
set_option maxHeartbeats 12800000 in
theorem merge_any {w : World} {av bv : Value} {f g : List (List Sp)} (ha : PfV w av f) (hb : PfV w bv g) (hN : f.length ≤ 5864062014634) (hM : ∀ l ∈ f, l.length ≤ 5864062014634) (hN2 : g.length ≤ 5864062014634) (hM2 : ∀ l ∈ g, l.length ≤ 5864062014634) (hKA : OkFm f) (hKB : OkFm g) :
    Calls Tryz.prog 10 #[.agg #[av], .agg #[bv]] w fun e w' => ∃ gv vs, e = .returned (.agg #[gv]) ∧ SO (fun k => w.heap.size ≤ k) w' gv (mrg f g) vs ∧ Below w.heap.size w w' := by
  obtain ⟨a, acap, rfl, ha1, ha2⟩ := ha.shape
  obtain ⟨b, bcap, rfl, hb1, hb2⟩ := hb.shape
  have HKA := hide hKA
  have HKB := hide hKB
  have HPW := hide (fun W (hW : Below w.heap.size w W) => And.intro (ha.below hW (Nat.le_refl _)) (hb.below hW (Nat.le_refl _)))
  have HM := hide hM
  have HM2 := hide hM2
  unfold maxLen at ha2 hb2
  clear ha hb hM hM2 hKA hKB
  obtain ⟨LA, hLA⟩ : ∃ L, Hid (f.length = L) := ⟨_, hide rfl⟩
  obtain ⟨LB, hLB⟩ : ∃ L, Hid (g.length = L) := ⟨_, hide rfl⟩
  rw [unhide hLA] at ha1 hN HPW ⊢
  rw [unhide hLB] at hb1 hN2 HPW ⊢
  obtain ⟨M, hMM⟩ : ∃ M, Hid (max LA LB = M) := ⟨_, hide rfl⟩
  have hml : (mrg f g).length = M := by rw [mrg_len, unhide hLA, unhide hLB, unhide hMM]
  have hMle : M ≤ 5864062014634 := by rw [← unhide hMM]; omega
  have HX := hide (MS.start w (.slice a LA acap) (.slice b LB bcap) (mrg f g) (by rw [hml]; unfold maxLen; omega))
  rw [hml, Nat.mul_one] at HX
  have HML := hide hml
  have hmx : (if LA < LB then (LB : Int) else (LA : Int)) = (M : Int) := by rw [← unhide hMM]; split <;> omega
  obtain ⟨i3, hi3, hz3, hs3, hb3⟩ := info_parts infR
  have hmk : ∀ W : World, (Instr.makeSlice 23 (.int .i64 (M : Int)) (.int .i64 (M : Int))).run Tryz.prog W = .ok (.slice (some ⟨W.heap.size, 0, none⟩) M M) (W.alloc (.cells (madeCells (Value.slice none 0 0).cells (M * 1)) 64)) := fun W => by
    have := run_make (P := Tryz.prog) W 23 64 i3 _ Tryz.underlying23 hi3 hz3 .i64 .i64 (M : Int) (M : Int) (by omega) (by omega) (by rw [hb3]; omega) (by omega)
    rw [hs3] at this
    exact this
  clear hml hi3 hz3 hs3 hb3
  go_enter Tryz.func10, Tryz.ntmps10
  go_wp2_with fail
  go_loopg [19] M (fun gg t19 wr => ∃ (i : Nat) (vs : List Value), Hid (i + gg = M) ∧ t19 = .int .i64 (i : Int) ∧ Hid (MS w (.slice a LA acap) (.slice b LB bcap) (mrg f g) i vs wr))
  case atStart => exact ⟨0, _, by unfold Hid; omega, rfl, HX⟩
  case round =>
    clear HX hmk
    obtain ⟨i, vs, hi, rfl, hS⟩ := hrel
    obtain ⟨c0, f0, z0⟩ := blk_cells (unhide hS).b0
    obtain ⟨c1, f1, z1⟩ := blk_cells (unhide hS).b1
    obtain ⟨c2, f2, z2⟩ := blk_cells (unhide hS).b2
    have q0 := c0 0
    have q1 := c1 0
    have q2 := c2 0
    have g2 := f2 0
    simp at q0 q1 q2
    clear c0 c1 c2 f0 f1 f2
    have i0 : (0 : Int) ≤ (i : Int) := by omega
    by_cases hlt : i < M
    · obtain ⟨m, hmm⟩ : ∃ m, Hid (mrgL f g i = m) := ⟨_, hide rfl⟩
      obtain ⟨N, hNN⟩ : ∃ N, Hid (m.length = N) := ⟨_, hide rfl⟩
      have hNe : N = max (szP f i) (szP g i) := by rw [← unhide hNN, ← unhide hmm, mrgL_len]
      have hNl : N ≤ 5864062014634 := by
        have h1 := szP_le (unhide HM) (i : Int)
        have h2 := szP_le (unhide HM2) (i : Int)
        omega
      have HPF := hide (fun W (hW : Below wr.heap.size wr W) => unhide HPW W (bl_past (unhide hS).bl hW))
      have HSY := hide (fun W (hW : Below wr.heap.size wr W) => (show W.cell? ⟨w.heap.size, 0, none⟩ = some (.slice a LA acap) ∧ W.cell? ⟨w.heap.size + 1, 0, none⟩ = some (.slice b LB bcap) from ⟨(hW.cell (p := ⟨w.heap.size, 0, none⟩) z0).trans q0, (hW.cell (p := ⟨w.heap.size + 1, 0, none⟩) z1).trans q1⟩))
      have HZA := hide (fun W (hW : Below wr.heap.size wr W) => size_any (unhide HPF W hW).1 (i : Int))
      have HZB := hide (fun W (hW : Below wr.heap.size wr W) => size_any (unhide HPF W hW).2 (i : Int))
      obtain ⟨PA, hPA⟩ : ∃ n, Hid (szP f (i : Int) = n) := ⟨_, hide rfl⟩
      obtain ⟨PB, hPB⟩ : ∃ n, Hid (szP g (i : Int) = n) := ⟨_, hide rfl⟩
      rw [unhide hPA] at HZA hNe
      rw [unhide hPB] at HZB hNe
      have hmx2 : (if PA < PB then (PB : Int) else (PA : Int)) = (N : Int) := by split <;> omega
      obtain ⟨i4, hi4, hz4, hs4, hb4⟩ := info_parts infS
      have hmk2 : ∀ W : World, (Instr.makeSlice 64 (.int .i64 (N : Int)) (.int .i64 (N : Int))).run Tryz.prog W = .ok (.slice (some ⟨W.heap.size, 0, none⟩) N N) (W.alloc (.cells (madeCells (Value.agg #[.int .i64 0, .int .u16 0, .int .u16 0, .int .i64 0]).cells (N * 4)) 62)) := fun W => by
        have := run_make (P := Tryz.prog) W 64 62 i4 _ Tryz.underlying64 hi4 hz4 .i64 .i64 (N : Int) (N : Int) (by omega) (by omega) (by rw [hb4]; omega) (by omega)
        rw [hs4] at this
        exact this
      obtain ⟨G0, hG0⟩ : ∃ G0 : Nat, Hid (G0 = gk) := ⟨_, hide rfl⟩
      have i1 : (i : Int) < (M : Int) := by omega
      clear hi4 hz4 hs4 hb4 hmx hNe
      go_wp2_with fail
      refine wp_region_held_drew (S := (fun W => W.cell? ⟨w.heap.size, 0, none⟩ = some (.slice a LA acap) ∧ W.cell? ⟨w.heap.size + 1, 0, none⟩ = some (.slice b LB bcap))) (by kernel_rfl) (unhide HSY _ (bl_drew _)) (fun hHeld => ?_)
      clear hHeld
      refine wpAnyH_take (i := 0) (oi := _) (v := .agg #[.slice a LA acap]) rfl (by kernel_rfl) (by kernel_rfl) (by kernel_rfl) (fun _ _ _ h => h) (Or.inl ⟨by rfl, (by intro w' hSw; obtain ⟨s0, s1⟩ := hSw; go_simp)⟩) (unhide HSY _ (bl_drew _)) ?_
      go_simp
      refine wpAnyH_take (i := 1) (oi := _) (v := .int .i64 (i : Int)) rfl (by kernel_rfl) (by kernel_rfl) (by kernel_rfl) (fun _ _ _ h => h) (Or.inl ⟨by rfl, (by intro w' hSw; obtain ⟨s0, s1⟩ := hSw; go_simp)⟩) (unhide HSY _ (bl_drew _)) ?_
      go_simp
      refine wpAnyH_take (i := 3) (oi := _) (v := .agg #[.slice b LB bcap]) rfl (by kernel_rfl) (by kernel_rfl) (by kernel_rfl) (fun _ _ _ h => h) (Or.inl ⟨by rfl, (by intro w' hSw; obtain ⟨s0, s1⟩ := hSw; go_simp)⟩) (unhide HSY _ (bl_drew _)) ?_
      go_simp
      refine wpAnyH_take (i := 4) (oi := _) (v := .int .i64 (i : Int)) rfl (by kernel_rfl) (by kernel_rfl) (by kernel_rfl) (fun _ _ _ h => h) (Or.inl ⟨by rfl, (by intro w' hSw; obtain ⟨s0, s1⟩ := hSw; go_simp)⟩) (unhide HSY _ (bl_drew _)) ?_
      go_simp
      refine wpAnyH_ready (rs := [2]) (by kernel_rfl) (by simp) ?_
      refine AllReadyH.cons (o := _) rfl (fun K hK => ?_) AllReadyH.nil
      go_simp
      refine (unhide HZA _ (bl_drew _)).mono ?_
      rintro e w3 ⟨rfl, b3⟩
      have HB3 := hide (bl_past (bl_drew _) b3)
      clear b3
      go_simp
      refine hK.out _ _ (unhide HSY _ (unhide HB3)) (fun _ => ?_)
      clear hK K
      go_simp
      refine wpAnyH_ready (rs := [5]) (by kernel_rfl) (by simp) ?_
      refine AllReadyH.cons (o := _) rfl (fun K hK => ?_) AllReadyH.nil
      go_simp
      refine (unhide HZB _ (unhide HB3)).mono ?_
      rintro e w4 ⟨rfl, b4⟩
      have HB4 := hide (bl_past (unhide HB3) b4)
      clear b4
      go_simp
      refine hK.out _ _ (unhide HSY _ (unhide HB4)) (fun _ => ?_)
      clear hK K
      go_simp
      refine wpAnyH_take (i := 6) (oi := _) (v := .int .i64 (N : Int)) rfl (by kernel_rfl) (by kernel_rfl) (by kernel_rfl) (fun _ _ _ h => h) (Or.inl ⟨by rfl, (by intro w' hSw; obtain ⟨s0, s1⟩ := hSw; go_simp)⟩) (unhide HSY _ (unhide HB4)) ?_
      go_simp
      refine wpAnyH_ready (rs := [7]) (by kernel_rfl) (by simp) ?_
      refine AllReadyH.cons (o := _) rfl (fun K hK => ?_) AllReadyH.nil
      go_simp
      refine hK.out _ _ (unhide HSY _ (bl_past (unhide HB4) (box4 _ _ _))) (fun _ => ?_)
      clear hK K
      go_simp
      refine wpAnyH_take (i := 8) (oi := _) (v := .slice (some ⟨w4.heap.size, 0, none⟩) N N) rfl (by kernel_rfl) (by kernel_rfl) (by kernel_rfl) (fun _ _ _ h => h) (Or.inl ⟨by rfl, (by intro w' hSw; obtain ⟨s0, s1⟩ := hSw; go_simp)⟩) (unhide HSY _ (bl_past (unhide HB4) (box4 _ _ _))) ?_
      go_simp
      refine wpAnyH_done (by kernel_rfl) ?_ _
      clear hmk2 hmx2 q0 q1 q2 g2 z0 z1 z2
      obtain ⟨Y, hY⟩ : ∃ Y : World, Y = wr := ⟨_, rfl⟩
      subst hY
      have HK0 : Hid (Ro (w4.alloc (.cells (madeCells (Value.agg #[.int .i64 0, .int .u16 0, .int .u16 0, .int .i64 0]).cells (N * 4)) 62)) 4 (.slice (some ⟨w4.heap.size, 0, none⟩) N N) N (flt enS (fil m spZ 0)) ∧ Below Y.heap.size Y (w4.alloc (.cells (madeCells (Value.agg #[.int .i64 0, .int .u16 0, .int .u16 0, .int .i64 0]).cells (N * 4)) 62))) := by
        refine ⟨?_, bl_past (unhide HB4) (box4 _ _ _)⟩
        rw [fil_zero, unhide hNN]
        exact made_ro enS spZ (Value.agg #[.int .i64 0, .int .u16 0, .int .u16 0, .int .i64 0]).cells 4 zS (by decide) rfl w4 62 N (by unfold maxLen; omega)
      have hYw : Y.heap.size ≤ w4.heap.size := (unhide HB4).size
      go_wp2_with fail
      go_loopg [32] N (fun g t32 wq => ∃ (j : Nat), Hid (j + g = N) ∧ t32 = .int .i64 (j : Int) ∧ Hid (Ro wq 4 (.slice (some ⟨w4.heap.size, 0, none⟩) N N) N (flt enS (fil m spZ j)) ∧ Below Y.heap.size Y wq))
      case atStart => exact ⟨0, by unfold Hid; omega, rfl, HK0⟩
      case round =>
        clear HK0
        obtain ⟨j, hj, rfl, hK⟩ := hrel
        have j0 : (0 : Int) ≤ (j : Int) := by omega
        by_cases hjt : j < N
        · have hjl : j < m.length := by rw [unhide hNN]; exact hjt
          obtain ⟨x, hx⟩ : ∃ x, m[j]? = some x := ⟨_, List.getElem?_eq_getElem hjl⟩
          have hxe : tog (atP f (i : Int) (j : Int)) (atP g (i : Int) (j : Int)) = x := mrgL_at (by rw [unhide hmm]; exact hx)
          have HSZ := hide (fun W (hW : Below Y.heap.size Y W) => unhide HSY W hW)
          have HSX := hide (fun W (hW : Below wr.heap.size wr W) => unhide HSY W (bl_past (unhide hK).2 hW))
          have HRA := hide (fun W (hW : Below wr.heap.size wr W) => at_any (unhide HPF W (bl_past (unhide hK).2 hW)).1 (i : Int) (j : Int))
          have HRB := hide (fun W (hW : Below wr.heap.size wr W) => at_any (unhide HPF W (bl_past (unhide hK).2 hW)).2 (i : Int) (j : Int))
          have HTG := hide (fun W => together_any W (atP f (i : Int) (j : Int)) (atP g (i : Int) (j : Int)) (atP_ok (unhide HKA) _ _).1 (atP_ok (unhide HKB) _ _).1)
          rw [hxe] at HTG
          obtain ⟨xa, hxa⟩ : ∃ xa, Hid (atP f (i : Int) (j : Int) = xa) := ⟨_, hide rfl⟩
          obtain ⟨xb, hxb⟩ : ∃ xb, Hid (atP g (i : Int) (j : Int) = xb) := ⟨_, hide rfl⟩
          rw [unhide hxa] at HRA HTG
          rw [unhide hxb] at HRB HTG
          have HXX := hide hx
          obtain ⟨x0, x1, x2, x3⟩ := x
          unfold spV at HRA HRB HTG
          simp only at HTG
          have j1 : (j : Int) < (N : Int) := by omega
          have HST : Hid (∀ W, Below wr.heap.size wr W → (∃ u, W.cell? ⟨w4.heap.size, j * 4, none⟩ = some u) ∧ (∃ u, W.cell? ⟨w4.heap.size, j * 4 + 1, none⟩ = some u) ∧ (∃ u, W.cell? ⟨w4.heap.size, j * 4 + 2, none⟩ = some u) ∧ (∃ u, W.cell? ⟨w4.heap.size, j * 4 + 3, none⟩ = some u) ∧ W.frozen? ⟨w4.heap.size, j * 4, none⟩ = false ∧ W.frozen? ⟨w4.heap.size, j * 4 + 1, none⟩ = false ∧ W.frozen? ⟨w4.heap.size, j * 4 + 2, none⟩ = false ∧ W.frozen? ⟨w4.heap.size, j * 4 + 3, none⟩ = false ∧ w4.heap.size < W.heap.size ∧
              (Ro ((((W.setCell ⟨w4.heap.size, j * 4, none⟩ (.int .i64 x0)).setCell ⟨w4.heap.size, j * 4 + 1, none⟩ (.int .u16 x1)).setCell ⟨w4.heap.size, j * 4 + 2, none⟩ (.int .u16 x2)).setCell ⟨w4.heap.size, j * 4 + 3, none⟩ (.int .i64 x3)) 4 (.slice (some ⟨w4.heap.size, 0, none⟩) N N) N (flt enS (fil m spZ (j + 1))) ∧ Below Y.heap.size Y ((((W.setCell ⟨w4.heap.size, j * 4, none⟩ (.int .i64 x0)).setCell ⟨w4.heap.size, j * 4 + 1, none⟩ (.int .u16 x1)).setCell ⟨w4.heap.size, j * 4 + 2, none⟩ (.int .u16 x2)).setCell ⟨w4.heap.size, j * 4 + 3, none⟩ (.int .i64 x3)))) := fun W hW => by
            have hro2 := (unhide hK).1.fr (Fr.of_below (S := fun _ => False) hW) (fun _ _ e => e)
            obtain ⟨g, off, cap, eg, -, -, hgl, hgc⟩ := hro2.full (by omega)
            cases eg
            have fz : ∀ k, W.frozen? ⟨w4.heap.size, k, none⟩ = false := fun k => hro2.free rfl k
            have yy : ∀ c, c < 4 → ∃ u, W.cell? ⟨w4.heap.size, j * 4 + c, none⟩ = some u := fun c hc => by
              have := hgc (j * 4 + c) (by omega)
              rw [Nat.zero_add] at this
              rw [this]
              exact ⟨_, List.getElem?_eq_getElem (by rw [hro2.1]; omega)⟩
            obtain ⟨r1, r2⟩ := hro2.putAt zS (by rw [fil_len _ _ (by omega), unhide hNN]) rfl hjt ⟨x0, x1, x2, x3⟩
            rw [fil_set _ (unhide HXX)] at r1
            rw [show W.setCells w4.heap.size (0 + j * 4) (enS ⟨x0, x1, x2, x3⟩) = (((W.setCell ⟨w4.heap.size, j * 4, none⟩ (.int .i64 x0)).setCell ⟨w4.heap.size, j * 4 + 1, none⟩ (.int .u16 x1)).setCell ⟨w4.heap.size, j * 4 + 2, none⟩ (.int .u16 x2)).setCell ⟨w4.heap.size, j * 4 + 3, none⟩ (.int .i64 x3) by rw [Nat.zero_add]; rfl] at r1 r2
            have hbY := bl_past (unhide hK).2 hW
            exact ⟨yy 0 (by omega), yy 1 (by omega), yy 2 (by omega), yy 3 (by omega), fz _, fz _, fz _, fz _, hgl, r1, hbY.trans (r2.below hbY.size (fun k hk e => by omega))⟩
          clear hx hxe hjl
          go_wp2_with fail
          refine wp_region_held_drew (S := (fun W => W.cell? ⟨w.heap.size, 0, none⟩ = some (.slice a LA acap) ∧ W.cell? ⟨w.heap.size + 1, 0, none⟩ = some (.slice b LB bcap))) (by kernel_rfl) (unhide HSX _ (bl_drew _)) (fun hHeld => ?_)
          clear hHeld
          refine wpAnyH_take (i := 0) (oi := _) (v := .slice (some ⟨w4.heap.size, 0, none⟩) N N) rfl (by kernel_rfl) (by kernel_rfl) (by kernel_rfl) (fun _ _ _ h => h) (Or.inl ⟨by rfl, (by intro w' hSw; obtain ⟨s0, s1⟩ := hSw; go_simp)⟩) (unhide HSX _ (bl_drew _)) ?_
          go_simp
          refine wpAnyH_take (i := 1) (oi := _) (v := .int .i64 (j : Int)) rfl (by kernel_rfl) (by kernel_rfl) (by kernel_rfl) (fun _ _ _ h => h) (Or.inl ⟨by rfl, (by intro w' hSw; obtain ⟨s0, s1⟩ := hSw; go_simp)⟩) (unhide HSX _ (bl_drew _)) ?_
          go_simp
          refine wpAnyH_take (i := 2) (oi := _) (v := .agg #[.slice a LA acap]) rfl (by kernel_rfl) (by kernel_rfl) (by kernel_rfl) (fun _ _ _ h => h) (Or.inl ⟨by rfl, (by intro w' hSw; obtain ⟨s0, s1⟩ := hSw; go_simp)⟩) (unhide HSX _ (bl_drew _)) ?_
          go_simp
          refine wpAnyH_take (i := 3) (oi := _) (v := .int .i64 (i : Int)) rfl (by kernel_rfl) (by kernel_rfl) (by kernel_rfl) (fun _ _ _ h => h) (Or.inl ⟨by rfl, (by intro w' hSw; obtain ⟨s0, s1⟩ := hSw; go_simp)⟩) (unhide HSX _ (bl_drew _)) ?_
          go_simp
          refine wpAnyH_take (i := 4) (oi := _) (v := .int .i64 (j : Int)) rfl (by kernel_rfl) (by kernel_rfl) (by kernel_rfl) (fun _ _ _ h => h) (Or.inl ⟨by rfl, (by intro w' hSw; obtain ⟨s0, s1⟩ := hSw; go_simp)⟩) (unhide HSX _ (bl_drew _)) ?_
          go_simp
          refine wpAnyH_take (i := 6) (oi := _) (v := .agg #[.slice b LB bcap]) rfl (by kernel_rfl) (by kernel_rfl) (by kernel_rfl) (fun _ _ _ h => h) (Or.inl ⟨by rfl, (by intro w' hSw; obtain ⟨s0, s1⟩ := hSw; go_simp)⟩) (unhide HSX _ (bl_drew _)) ?_
          go_simp
          refine wpAnyH_take (i := 7) (oi := _) (v := .int .i64 (i : Int)) rfl (by kernel_rfl) (by kernel_rfl) (by kernel_rfl) (fun _ _ _ h => h) (Or.inl ⟨by rfl, (by intro w' hSw; obtain ⟨s0, s1⟩ := hSw; go_simp)⟩) (unhide HSX _ (bl_drew _)) ?_
          go_simp
          refine wpAnyH_take (i := 8) (oi := _) (v := .int .i64 (j : Int)) rfl (by kernel_rfl) (by kernel_rfl) (by kernel_rfl) (fun _ _ _ h => h) (Or.inl ⟨by rfl, (by intro w' hSw; obtain ⟨s0, s1⟩ := hSw; go_simp)⟩) (unhide HSX _ (bl_drew _)) ?_
          go_simp
          refine wpAnyH_ready (rs := [5]) (by kernel_rfl) (by simp) ?_
          refine AllReadyH.cons (o := _) rfl (fun K hK => ?_) AllReadyH.nil
          go_simp
          refine (unhide HRA _ (bl_drew _)).mono ?_
          rintro e w5 ⟨rfl, b5⟩
          have HB5 := hide (bl_past (bl_drew _) b5)
          clear b5
          go_simp
          refine hK.out _ _ (unhide HSX _ (unhide HB5)) (fun _ => ?_)
          clear hK K
          go_simp
          refine wpAnyH_ready (rs := [9]) (by kernel_rfl) (by simp) ?_
          refine AllReadyH.cons (o := _) rfl (fun K hK => ?_) AllReadyH.nil
          go_simp
          refine (unhide HRB _ (unhide HB5)).mono ?_
          rintro e w6 ⟨rfl, b6⟩
          have HB6 := hide (bl_past (unhide HB5) b6)
          clear b6
          go_simp
          refine hK.out _ _ (unhide HSX _ (unhide HB6)) (fun _ => ?_)
          clear hK K
          go_simp
          refine wpAnyH_ready (rs := [10]) (by kernel_rfl) (by simp) ?_
          refine AllReadyH.cons (o := _) rfl (fun K hK => ?_) AllReadyH.nil
          go_simp
          refine (unhide HTG w6).mono ?_
          rintro e w7 ⟨rfl, b7⟩
          have HB7 := hide (bl_past (unhide HB6) b7)
          clear b7
          go_simp
          refine hK.out _ _ (unhide HSX _ (unhide HB7)) (fun _ => ?_)
          clear hK K
          go_simp
          refine wpAnyH_take (i := 11) (oi := _) (v := .pointer (some ⟨w4.heap.size, j * 4, none⟩)) rfl (by kernel_rfl) (by kernel_rfl) (by kernel_rfl) (fun _ _ _ h => h) (Or.inl ⟨by rfl, (by intro w' hSw; obtain ⟨s0, s1⟩ := hSw; go_simp)⟩) (unhide HSX _ (unhide HB7)) ?_
          go_simp
          obtain ⟨⟨u0, y0⟩, ⟨u1, y1⟩, ⟨u2, y2⟩, ⟨u3, y3⟩, fz0, fz1, fz2, fz3, hgl, HPUT⟩ := unhide HST w7 (unhide HB7)
          have HS8 := hide (unhide HSZ _ HPUT.2)
          have HPT := hide HPUT
          clear HPUT
          refine wpAnyH_ready (rs := [12]) (by kernel_rfl) (by simp) ?_
          refine AllReadyH.cons (o := _) rfl (fun K hK => ?_) AllReadyH.nil
          go_simp
          refine hK.out _ _ (unhide HS8) (fun _ => ?_)
          clear hK K
          go_simp
          refine wpAnyH_done (by kernel_rfl) ?_ _
          go_wp2_with fail
          go_roundg (gk - 1)
          case measure => have := unhide hj; omega
          case rel => exact ⟨j + 1, by have := unhide hj; unfold Hid; omega, by go_num, HPT⟩
        · have hjN : j = N := by have := unhide hj; omega
          subst hjN
          have HR5 := hide (unhide hK).1
          rw [show fil m spZ j = m by rw [← unhide hNN]; exact fil_all _ _] at HR5
          have HBY := hide (unhide hK).2
          have HMI : Hid ((mrg f g)[i]? = some m) := by rw [← unhide hmm]; exact mrg_at (by rw [unhide hLA, unhide hLB, unhide hMM]; exact hlt)
          have HLN : Hid (MS w (.slice a LA acap) (.slice b LB bcap) (mrg f g) (i + 1) (vs.set i (.slice (some ⟨w4.heap.size, 0, none⟩) j j)) (wr.setCell ⟨w.heap.size + 1 + 1 + 1, i, none⟩ (.slice (some ⟨w4.heap.size, 0, none⟩) j j))) := by
            refine (unhide hS).set (unhide HMI) (unhide HBY) (l := m) ?_ (fun k hk => ?_)
            · unfold SR; rw [unhide hNN]; exact unhide HR5
            · exact ⟨by cases hk; exact hYw, (unhide HR5).lt k hk⟩
          have HLS := hide ((unhide hS).on (unhide HBY))
          have hrw := (unhide HLS).ow.row
          have hfl : (fil (mrg f g) [] i).length = M := by rw [fil_len _ _ (by rw [unhide HML]; omega), unhide HML]
          rw [hfl, unhide HML] at hrw
          obtain ⟨_, _, _, eg, -, -, hgl, hgc⟩ := hrw.full (by omega)
          cases eg
          have fz := hrw.free rfl i
          obtain ⟨u0, y0⟩ : ∃ u, wr.cell? ⟨w.heap.size + 1 + 1 + 1, i, none⟩ = some u := by
            have := hgc i (by omega)
            rw [Nat.zero_add] at this
            rw [this]
            exact ⟨_, List.getElem?_eq_getElem (by rw [hrw.1]; omega)⟩
          clear hK hrw hgc hfl HLS HR5 HBY
          go_wp2_with fail
          go_roundg (G0 - 1)
          case measure => have h1 := unhide hG0; have h2 := unhide hi; omega
          case rel => exact ⟨i + 1, _, by have h1 := unhide hG0; have h2 := unhide hi; unfold Hid; omega, by go_num, HLN⟩
    · have hiL : i = M := by have := unhide hi; omega
      subst hiL
      have HO := hide (unhide hS).ow
      rw [show fil (mrg f g) [] i = mrg f g by rw [← unhide HML]; exact fil_all _ _, unhide HML] at HO
      have HBL := hide (unhide hS).bl
      clear HM HM2 hS
      go_wp2_with fail
      refine bodyPost_ret (v := .agg #[.slice (some ⟨w.heap.size + 1 + 1 + 1, 0, none⟩) i i]) ?_ rfl ?_
      · rw [results_cell_one rfl]
        go_simp
      · have ff : ∀ u, Fr (fun k => k = w.heap.size + 1 + 1) wr (wr.setCell ⟨w.heap.size + 1 + 1, 0, none⟩ u) := fun u => Fr.setCell (S := fun k => k = w.heap.size + 1 + 1) (Fr.refl _ _) _ (.inr rfl) _
        exact ⟨_, vs, rfl, ((unhide HO).frZ staysS (ff _) (fun k _ hk e => by omega)).mono (fun k _ hk => by omega), (unhide HBL).trans ((ff _).below (unhide HBL).size (fun k hk e => by omega))⟩
end Go.Proofs.YtclcebdcdbcpjaaGreat
