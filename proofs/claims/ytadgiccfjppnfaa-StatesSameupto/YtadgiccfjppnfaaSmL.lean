/-
  The law of states that are the same.
-/
import Derived.Test.YtadgiccfjppnfaaLnt
import Derived.Test.YtadgiccfjppnfaaKpt
import Derived.Test.YtadgiccfjppnfaaPsp
namespace Go.Proofs.Ytadgiccfjppnfaa
open Go.RowKit
set_option linter.unusedVariables false
set_option linter.unusedSimpArgs false
/-- What lent answers, to be read. -/
def LnR2 (w : World) (s : St) (e : Ending) (w' : World) : Prop := ∃ xv rv, e = .returned (.tuple #[xv, rv]) ∧ StV w' xv s ∧ RmV w' rv (lists s) ∧ Below w.heap.size w w'
theorem lent_rd2 {w : World} {v : Value} {s : St} (h : StV w v s) (hs : StB s) : Calls Try.prog 8 #[v] w (LnR2 w s) :=
  (lent_any h hs).mono (fun e w' ⟨X, C1, C, tv, ov, bv, rv, R, xo, xb, he, hl⟩ => ⟨_, rv, he, hl.stv, hl.rmv, hl.bw⟩)
theorem Dc_symm {α : Type} (x y : α) : Dc (x = y) = Dc (y = x) := Dc_congr ⟨fun e => e.symm, fun e => e.symm⟩
set_option maxRecDepth 100000 in
set_option maxHeartbeats 12800000 in
theorem statesSameLaw {w : World} {u v : Value} {a b : St} (hu : StV w u a) (hv : StV w v b) (ha : StB a) (hbB : StB b) (ia : StI a) (ib : StI b) :
    Calls Try.prog 4 #[u, v] w fun e w' => e = .returned (.bool true) ∧ Below w.heap.size w w' := by
  obtain ⟨ata, atc, aoa, aoc, aba, abc, rfl, -, -, -, -, -, -, -, -, -⟩ := hu.shape
  obtain ⟨bta, btc, boa, boc, bba, bbc, rfl, -, -, -, -, -, -, -, -, -⟩ := hv.shape
  have HU := hide (fun (W : World) (hb : Below w.heap.size w W) => hu.below hb (Nat.le_refl _))
  have HV := hide (fun (W : World) (hb : Below w.heap.size w W) => hv.below hb (Nat.le_refl _))
  obtain ⟨aT, qaT⟩ : ∃ n, Hid (a.texts.length = n) := ⟨_, hide rfl⟩
  obtain ⟨aO, qaO⟩ : ∃ n, Hid (a.objs.length = n) := ⟨_, hide rfl⟩
  obtain ⟨aB, qaB⟩ : ∃ n, Hid (a.fibs.length = n) := ⟨_, hide rfl⟩
  obtain ⟨a1, qa1⟩ : ∃ n, Hid (a.cur = n) := ⟨_, hide rfl⟩
  obtain ⟨a2, qa2⟩ : ∃ n, Hid (a.steps = n) := ⟨_, hide rfl⟩
  obtain ⟨a3, qa3⟩ : ∃ n, Hid (a.spent = n) := ⟨_, hide rfl⟩
  obtain ⟨a4, qa4⟩ : ∃ n, Hid (a.read = n) := ⟨_, hide rfl⟩
  rw [unhide qaT, unhide qaO, unhide qaB, unhide qa1, unhide qa2, unhide qa3, unhide qa4] at HU ⊢
  obtain ⟨bT, qbT⟩ : ∃ n, Hid (b.texts.length = n) := ⟨_, hide rfl⟩
  obtain ⟨bO, qbO⟩ : ∃ n, Hid (b.objs.length = n) := ⟨_, hide rfl⟩
  obtain ⟨bB, qbB⟩ : ∃ n, Hid (b.fibs.length = n) := ⟨_, hide rfl⟩
  obtain ⟨b1, qb1⟩ : ∃ n, Hid (b.cur = n) := ⟨_, hide rfl⟩
  obtain ⟨b2, qb2⟩ : ∃ n, Hid (b.steps = n) := ⟨_, hide rfl⟩
  obtain ⟨b3, qb3⟩ : ∃ n, Hid (b.spent = n) := ⟨_, hide rfl⟩
  obtain ⟨b4, qb4⟩ : ∃ n, Hid (b.read = n) := ⟨_, hide rfl⟩
  rw [unhide qbT, unhide qbO, unhide qbB, unhide qb1, unhide qb2, unhide qb3, unhide qb4] at HV ⊢
  have HLA := hide (fun (W : World) (hb : Below w.heap.size w W) => lent_rd2 (unhide HU W hb) ha)
  have HLB := hide (fun (W : World) (hb : Below w.heap.size w W) => lent_rd2 (unhide HV W hb) hbB)
  have HDS := hide (fun (W : World) (hb : Below w.heap.size w W) => dSame_any (unhide HU W hb) (unhide HV W hb) ha hbB)
  obtain ⟨d, hd⟩ : ∃ d, Hid (Dc (canD a = canD b) = d) := ⟨_, hide rfl⟩
  have hd2 : Hid (Dc (canD b = canD a) = d) := by rw [Dc_symm]; exact hd
  rw [unhide hd] at HDS
  obtain ⟨p1, p2⟩ := blk2 w (.cells #[.slice ata aT atc, .slice aoa aO aoc, .slice aba aB abc, .int .i64 a1, .int .i64 a2, .int .i64 a3, .int .i64 a4] 26) (.cells #[.slice bta bT btc, .slice boa bO boc, .slice bba bB bbc, .int .i64 b1, .int .i64 b2, .int .i64 b3, .int .i64 b4] 26)
  have f0 : Below w.heap.size w ((w.alloc (.cells #[.slice ata aT atc, .slice aoa aO aoc, .slice aba aB abc, .int .i64 a1, .int .i64 a2, .int .i64 a3, .int .i64 a4] 26)).alloc (.cells #[.slice bta bT btc, .slice boa bO boc, .slice bba bB bbc, .int .i64 b1, .int .i64 b2, .int .i64 b3, .int .i64 b4] 26)) := bl_two w _ _
  obtain ⟨W0, hW0⟩ : ∃ W, Hid ((w.alloc (.cells #[.slice ata aT atc, .slice aoa aO aoc, .slice aba aB abc, .int .i64 a1, .int .i64 a2, .int .i64 a3, .int .i64 a4] 26)).alloc (.cells #[.slice bta bT btc, .slice boa bO boc, .slice bba bB bbc, .int .i64 b1, .int .i64 b2, .int .i64 b3, .int .i64 b4] 26) = W) := ⟨_, hide rfl⟩
  rw [unhide hW0] at p1 p2 f0
  have HP1 := hide p1
  have HP2 := hide p2
  have HF0 := hide f0
  have bn := bool_neq
  have sb1 : (d != d) = false := by simp
  obtain ⟨c0, -, l0⟩ := blk_cells p1
  have x0 := c0 0
  have x1 := c0 1
  have x2 := c0 2
  have x3 := c0 3
  have x4 := c0 4
  have x5 := c0 5
  have x6 := c0 6
  simp at x0 x1 x2 x3 x4 x5 x6
  clear hu hv p1 p2 f0 c0
  go_enter Try.func4, Try.ntmps4
  go_wp2_with fail
  rw [unhide hW0]
  go_wp2_with fail
  refine (unhide HLA _ (unhide HF0)).mono ?_
  rintro e w1 ⟨xv, rv, rfl, hxv, hrv, hb1⟩
  obtain ⟨xta, xtc, xoa, xoc, xba, xbc, rfl, -, -, -, -, -, -, -, -, -⟩ := hxv.shape
  obtain ⟨ra, rcap, rfl, -, -⟩ := hrv.shape
  obtain ⟨RA, hRA⟩ : ∃ n, Hid ((lists a).length = n) := ⟨_, hide rfl⟩
  rw [unhide hRA] at hrv ⊢
  rw [unhide qaT, unhide qaO, unhide qaB, unhide qa1, unhide qa2, unhide qa3, unhide qa4] at hxv ⊢
  have HXV := hide hxv
  have HRV := hide hrv
  obtain ⟨X1, hX1⟩ : ∃ n, Hid (w1.heap.size = n) := ⟨_, hide rfl⟩
  obtain ⟨W1, hW1⟩ : ∃ W, Hid (w1.alloc (.cells #[.slice xta aT xtc, .slice xoa aO xoc, .slice xba aB xbc, .int .i64 a1, .int .i64 a2, .int .i64 a3, .int .i64 a4] 26) = W) := ⟨_, hide rfl⟩
  have f1 : Below w1.heap.size w1 W1 := by rw [← unhide hW1]; exact (Below.refl _ w1).alloc (Nat.le_refl _) _
  have n1 : W1.heap[X1]? = some (.cells #[.slice xta aT xtc, .slice xoa aO xoc, .slice xba aB xbc, .int .i64 a1, .int .i64 a2, .int .i64 a3, .int .i64 a4] 26) := by rw [← unhide hW1, ← unhide hX1]; exact heap_alloc_new w1 _
  have HN1 := hide n1
  have HF01 : Hid (Below W0.heap.size W0 W1) := bl_past hb1 f1
  have HF1 : Hid (Below w1.heap.size w1 W1) := f1
  have HFW1 : Hid (Below w.heap.size w W1) := bl_past (unhide HF0) (unhide HF01)
  obtain ⟨c0, -, l1⟩ := blk_cells (bkeep1 (unhide HP2) (unhide HF01))
  have y0 := c0 0
  have y1 := c0 1
  have y2 := c0 2
  have y3 := c0 3
  have y4 := c0 4
  have y5 := c0 5
  have y6 := c0 6
  simp at y0 y1 y2 y3 y4 y5 y6
  clear hxv hrv hb1 f1 n1 c0 HLA x0 x1 x2 x3 x4 x5 x6
  rw [← unhide hW1] at y0 y1 y2 y3 y4 y5 y6 l1
  go_wp2_with fail
  rw [unhide hW1, unhide hX1]
  rw [unhide hW1] at l1
  refine (unhide HLB _ (unhide HFW1)).mono ?_
  rintro e w2 ⟨yv, rv2, rfl, hyv, hrv2, hb2⟩
  obtain ⟨yta, ytc, yoa, yoc, yba, ybc, rfl, -, -, -, -, -, -, -, -, -⟩ := hyv.shape
  obtain ⟨ra2, rcap2, rfl, -, -⟩ := hrv2.shape
  obtain ⟨RB, hRB⟩ : ∃ n, Hid ((lists b).length = n) := ⟨_, hide rfl⟩
  rw [unhide hRB] at hrv2 ⊢
  rw [unhide qbT, unhide qbO, unhide qbB, unhide qb1, unhide qb2, unhide qb3, unhide qb4] at hyv ⊢
  have HYV := hide hyv
  have HRV2 := hide hrv2
  obtain ⟨X2, hX2⟩ : ∃ n, Hid (w2.heap.size = n) := ⟨_, hide rfl⟩
  obtain ⟨W2, hW2⟩ : ∃ W, Hid (w2.alloc (.cells #[.slice yta bT ytc, .slice yoa bO yoc, .slice yba bB ybc, .int .i64 b1, .int .i64 b2, .int .i64 b3, .int .i64 b4] 26) = W) := ⟨_, hide rfl⟩
  have f2 : Below w2.heap.size w2 W2 := by rw [← unhide hW2]; exact (Below.refl _ w2).alloc (Nat.le_refl _) _
  have n2 : W2.heap[X2]? = some (.cells #[.slice yta bT ytc, .slice yoa bO yoc, .slice yba bB ybc, .int .i64 b1, .int .i64 b2, .int .i64 b3, .int .i64 b4] 26) := by rw [← unhide hW2, ← unhide hX2]; exact heap_alloc_new w2 _
  have f12 : Below W1.heap.size W1 W2 := bl_past hb2 f2
  have f1w : Below w1.heap.size w1 W2 := bl_past (unhide HF1) f12
  have fw : Below w.heap.size w W2 := bl_past (unhide HFW1) f12
  have HFW := hide fw
  -- what all later calls ask
  have SK : Hid (∀ W, Below W2.heap.size W2 W → W.cell? ⟨w.heap.size, 0, none⟩ = some (.slice ata aT atc) ∧ W.cell? ⟨w.heap.size, 1, none⟩ = some (.slice aoa aO aoc) ∧ W.cell? ⟨w.heap.size, 2, none⟩ = some (.slice aba aB abc) ∧ W.cell? ⟨w.heap.size, 3, none⟩ = some (.int .i64 a1) ∧ W.cell? ⟨w.heap.size, 4, none⟩ = some (.int .i64 a2) ∧ W.cell? ⟨w.heap.size, 5, none⟩ = some (.int .i64 a3) ∧ W.cell? ⟨w.heap.size, 6, none⟩ = some (.int .i64 a4) ∧ W.cell? ⟨w.heap.size + 1, 0, none⟩ = some (.slice bta bT btc) ∧ W.cell? ⟨w.heap.size + 1, 1, none⟩ = some (.slice boa bO boc) ∧ W.cell? ⟨w.heap.size + 1, 2, none⟩ = some (.slice bba bB bbc) ∧ W.cell? ⟨w.heap.size + 1, 3, none⟩ = some (.int .i64 b1) ∧ W.cell? ⟨w.heap.size + 1, 4, none⟩ = some (.int .i64 b2) ∧ W.cell? ⟨w.heap.size + 1, 5, none⟩ = some (.int .i64 b3) ∧ W.cell? ⟨w.heap.size + 1, 6, none⟩ = some (.int .i64 b4) ∧ W.cell? ⟨X1, 0, none⟩ = some (.slice xta aT xtc) ∧ W.cell? ⟨X1, 1, none⟩ = some (.slice xoa aO xoc) ∧ W.cell? ⟨X1, 2, none⟩ = some (.slice xba aB xbc) ∧ W.cell? ⟨X1, 3, none⟩ = some (.int .i64 a1) ∧ W.cell? ⟨X1, 4, none⟩ = some (.int .i64 a2) ∧ W.cell? ⟨X1, 5, none⟩ = some (.int .i64 a3) ∧ W.cell? ⟨X1, 6, none⟩ = some (.int .i64 a4) ∧ W.cell? ⟨X2, 0, none⟩ = some (.slice yta bT ytc) ∧ W.cell? ⟨X2, 1, none⟩ = some (.slice yoa bO yoc) ∧ W.cell? ⟨X2, 2, none⟩ = some (.slice yba bB ybc) ∧ W.cell? ⟨X2, 3, none⟩ = some (.int .i64 b1) ∧ W.cell? ⟨X2, 4, none⟩ = some (.int .i64 b2) ∧ W.cell? ⟨X2, 5, none⟩ = some (.int .i64 b3) ∧ W.cell? ⟨X2, 6, none⟩ = some (.int .i64 b4)) := fun W hW => by
    have a1 := (blk_cells (bkeep1 (bkeep1 (bkeep1 (unhide HP1) (unhide HF01)) f12) hW)).1
    have a2 := (blk_cells (bkeep1 (bkeep1 (bkeep1 (unhide HP2) (unhide HF01)) f12) hW)).1
    have a3 := (blk_cells (bkeep1 (bkeep1 (unhide HN1) f12) hW)).1
    have a4 := (blk_cells (bkeep1 n2 hW)).1
    exact ⟨by rw [a1 0]; rfl, by rw [a1 1]; rfl, by rw [a1 2]; rfl, by rw [a1 3]; rfl, by rw [a1 4]; rfl, by rw [a1 5]; rfl, by rw [a1 6]; rfl, by rw [a2 0]; rfl, by rw [a2 1]; rfl, by rw [a2 2]; rfl, by rw [a2 3]; rfl, by rw [a2 4]; rfl, by rw [a2 5]; rfl, by rw [a2 6]; rfl, by rw [a3 0]; rfl, by rw [a3 1]; rfl, by rw [a3 2]; rfl, by rw [a3 3]; rfl, by rw [a3 4]; rfl, by rw [a3 5]; rfl, by rw [a3 6]; rfl, by rw [a4 0]; rfl, by rw [a4 1]; rfl, by rw [a4 2]; rfl, by rw [a4 3]; rfl, by rw [a4 4]; rfl, by rw [a4 5]; rfl, by rw [a4 6]; rfl⟩
  have rdA : Hid (∀ W, Below W2.heap.size W2 W → StV W (.agg #[.slice ata aT atc, .slice aoa aO aoc, .slice aba aB abc, .int .i64 a1, .int .i64 a2, .int .i64 a3, .int .i64 a4]) a) := fun W hW => unhide HU W (bl_past fw hW)
  have rdB : Hid (∀ W, Below W2.heap.size W2 W → StV W (.agg #[.slice bta bT btc, .slice boa bO boc, .slice bba bB bbc, .int .i64 b1, .int .i64 b2, .int .i64 b3, .int .i64 b4]) b) := fun W hW => unhide HV W (bl_past fw hW)
  have rdX : Hid (∀ W, Below W2.heap.size W2 W → StV W (.agg #[.slice xta aT xtc, .slice xoa aO xoc, .slice xba aB xbc, .int .i64 a1, .int .i64 a2, .int .i64 a3, .int .i64 a4]) a) := fun W hW => (unhide HXV).below (bl_past f1w hW) (Nat.le_refl _)
  have rdY : Hid (∀ W, Below W2.heap.size W2 W → StV W (.agg #[.slice yta bT ytc, .slice yoa bO yoc, .slice yba bB ybc, .int .i64 b1, .int .i64 b2, .int .i64 b3, .int .i64 b4]) b) := fun W hW => (unhide HYV).below (bl_past f2 hW) (Nat.le_refl _)
  have H14 : Hid (∀ W, Below W2.heap.size W2 W → Calls Try.prog 14 #[.agg #[.slice ata aT atc, .slice aoa aO aoc, .slice aba aB abc, .int .i64 a1, .int .i64 a2, .int .i64 a3, .int .i64 a4], .agg #[.slice bta bT btc, .slice boa bO boc, .slice bba bB bbc, .int .i64 b1, .int .i64 b2, .int .i64 b3, .int .i64 b4]] W fun e w' => e = .returned (.bool d) ∧ Below W.heap.size W w') := fun W hW => unhide HDS W (bl_past fw hW)
  have H15a : Hid (∀ W, Below W2.heap.size W2 W → Calls Try.prog 15 #[.agg #[.slice xta aT xtc, .slice xoa aO xoc, .slice xba aB xbc, .int .i64 a1, .int .i64 a2, .int .i64 a3, .int .i64 a4], .agg #[.slice yta bT ytc, .slice yoa bO yoc, .slice yba bB ybc, .int .i64 b1, .int .i64 b2, .int .i64 b3, .int .i64 b4]] W fun e w' => e = .returned (.bool d) ∧ Below W.heap.size W w') := fun W hW => by
    have := pSame_any (unhide rdX W hW) (unhide rdY W hW) ha hbB ia ib
    rw [unhide hd] at this
    exact this
  have H15b : Hid (∀ W, Below W2.heap.size W2 W → Calls Try.prog 15 #[.agg #[.slice yta bT ytc, .slice yoa bO yoc, .slice yba bB ybc, .int .i64 b1, .int .i64 b2, .int .i64 b3, .int .i64 b4], .agg #[.slice xta aT xtc, .slice xoa aO xoc, .slice xba aB xbc, .int .i64 a1, .int .i64 a2, .int .i64 a3, .int .i64 a4]] W fun e w' => e = .returned (.bool d) ∧ Below W.heap.size W w') := fun W hW => by
    have := pSame_any (unhide rdY W hW) (unhide rdX W hW) hbB ha ib ia
    rw [unhide hd2] at this
    exact this
  have H15c : Hid (∀ W, Below W2.heap.size W2 W → Calls Try.prog 15 #[.agg #[.slice xta aT xtc, .slice xoa aO xoc, .slice xba aB xbc, .int .i64 a1, .int .i64 a2, .int .i64 a3, .int .i64 a4], .agg #[.slice xta aT xtc, .slice xoa aO xoc, .slice xba aB xbc, .int .i64 a1, .int .i64 a2, .int .i64 a3, .int .i64 a4]] W fun e w' => e = .returned (.bool true) ∧ Below W.heap.size W w') := fun W hW => by
    have := pSame_any (unhide rdX W hW) (unhide rdX W hW) ha ha ia ia
    rw [Dc_true rfl] at this
    exact this
  have H11a : Hid (∀ W, Below W2.heap.size W2 W → Calls Try.prog 11 #[.agg #[.slice xta aT xtc, .slice xoa aO xoc, .slice xba aB xbc, .int .i64 a1, .int .i64 a2, .int .i64 a3, .int .i64 a4], .slice ra RA rcap, .agg #[.slice ata aT atc, .slice aoa aO aoc, .slice aba aB abc, .int .i64 a1, .int .i64 a2, .int .i64 a3, .int .i64 a4]] W fun e w' => e = .returned (.bool true) ∧ Below W.heap.size W w') := fun W hW => kept_any (unhide rdX W hW) ((unhide HRV).below (bl_past f1w hW) (Nat.le_refl _)) (unhide rdA W hW) ha
  have H11b : Hid (∀ W, Below W2.heap.size W2 W → Calls Try.prog 11 #[.agg #[.slice yta bT ytc, .slice yoa bO yoc, .slice yba bB ybc, .int .i64 b1, .int .i64 b2, .int .i64 b3, .int .i64 b4], .slice ra2 RB rcap2, .agg #[.slice bta bT btc, .slice boa bO boc, .slice bba bB bbc, .int .i64 b1, .int .i64 b2, .int .i64 b3, .int .i64 b4]] W fun e w' => e = .returned (.bool true) ∧ Below W.heap.size W w') := fun W hW => kept_any (unhide rdY W hW) ((unhide HRV2).below (bl_past f2 hW) (Nat.le_refl _)) (unhide rdB W hW) hbB
  clear hyv hrv2 hb2 f2 n2 f12 f1w fw HLB y0 y1 y2 y3 y4 y5 y6 rdA rdB rdX rdY HXV HYV HRV HRV2 HU HV HDS hd hd2
  obtain ⟨z0, z1, z2, z3, z4, z5, z6, z7, z8, z9, z10, z11, z12, z13, z14, z15, z16, z17, z18, z19, z20, z21, z22, z23, z24, z25, z26, z27⟩ := unhide SK W2 (Below.refl _ _)
  rw [← unhide hW2] at z0 z1 z2 z3 z4 z5 z6 z7 z8 z9 z10 z11 z12 z13 z14 z15 z16 z17 z18 z19 z20 z21 z22 z23 z24 z25 z26 z27
  go_wp2_with fail
  rw [unhide hW2, unhide hX2]
  refine (unhide H14 _ (Below.refl _ _)).mono ?_
  rintro e w3 ⟨rfl, g1⟩
  have G1 := hide g1
  clear g1 z0 z1 z2 z3 z4 z5 z6 z7 z8 z9 z10 z11 z12 z13 z14 z15 z16 z17 z18 z19 z20 z21 z22 z23 z24 z25 z26 z27
  obtain ⟨k0, k1, k2, k3, k4, k5, k6, k7, k8, k9, k10, k11, k12, k13, k14, k15, k16, k17, k18, k19, k20, k21, k22, k23, k24, k25, k26, k27⟩ := unhide SK _ (unhide G1)
  go_wp2_with fail
  refine (unhide H15a _ (unhide G1)).mono ?_
  rintro e w4 ⟨rfl, g1⟩
  have G2 := hide (bl_past (unhide G1) g1)
  clear g1 k0 k1 k2 k3 k4 k5 k6 k7 k8 k9 k10 k11 k12 k13 k14 k15 k16 k17 k18 k19 k20 k21 k22 k23 k24 k25 k26 k27
  obtain ⟨z0, z1, z2, z3, z4, z5, z6, z7, z8, z9, z10, z11, z12, z13, z14, z15, z16, z17, z18, z19, z20, z21, z22, z23, z24, z25, z26, z27⟩ := unhide SK _ (unhide G2)
  go_wp2_with fail
  refine (unhide H15b _ (unhide G2)).mono ?_
  rintro e w5 ⟨rfl, g1⟩
  have G3 := hide (bl_past (unhide G2) g1)
  clear g1 z0 z1 z2 z3 z4 z5 z6 z7 z8 z9 z10 z11 z12 z13 z14 z15 z16 z17 z18 z19 z20 z21 z22 z23 z24 z25 z26 z27
  obtain ⟨k0, k1, k2, k3, k4, k5, k6, k7, k8, k9, k10, k11, k12, k13, k14, k15, k16, k17, k18, k19, k20, k21, k22, k23, k24, k25, k26, k27⟩ := unhide SK _ (unhide G3)
  go_wp2_with fail
  refine (unhide H15c _ (unhide G3)).mono ?_
  rintro e w6 ⟨rfl, g1⟩
  have G4 := hide (bl_past (unhide G3) g1)
  clear g1 k0 k1 k2 k3 k4 k5 k6 k7 k8 k9 k10 k11 k12 k13 k14 k15 k16 k17 k18 k19 k20 k21 k22 k23 k24 k25 k26 k27
  obtain ⟨z0, z1, z2, z3, z4, z5, z6, z7, z8, z9, z10, z11, z12, z13, z14, z15, z16, z17, z18, z19, z20, z21, z22, z23, z24, z25, z26, z27⟩ := unhide SK _ (unhide G4)
  go_wp2_with fail
  refine (unhide H11a _ (unhide G4)).mono ?_
  rintro e w7 ⟨rfl, g1⟩
  have G5 := hide (bl_past (unhide G4) g1)
  clear g1 z0 z1 z2 z3 z4 z5 z6 z7 z8 z9 z10 z11 z12 z13 z14 z15 z16 z17 z18 z19 z20 z21 z22 z23 z24 z25 z26 z27
  obtain ⟨k0, k1, k2, k3, k4, k5, k6, k7, k8, k9, k10, k11, k12, k13, k14, k15, k16, k17, k18, k19, k20, k21, k22, k23, k24, k25, k26, k27⟩ := unhide SK _ (unhide G5)
  go_wp2_with fail
  refine (unhide H11b _ (unhide G5)).mono ?_
  rintro e w8 ⟨rfl, g1⟩
  have G6 := hide (bl_past (unhide HFW) (bl_past (unhide G5) g1))
  clear g1 k0 k1 k2 k3 k4 k5 k6 k7 k8 k9 k10 k11 k12 k13 k14 k15 k16 k17 k18 k19 k20 k21 k22 k23 k24 k25 k26 k27
  go_wp2_with fail
  go_ret
  exact ⟨rfl, unhide G6⟩
end Go.Proofs.Ytadgiccfjppnfaa
