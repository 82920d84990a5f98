/-
  Same, of the program and of the document.
-/
import Derived.Test.YtadgiccfjppnfaaPsd
import Derived.Deep.Cut
namespace Go.Proofs.Ytadgiccfjppnfaa
open Go.RowKit
set_option linter.unusedVariables false
set_option linter.unusedSimpArgs false
set_option maxRecDepth 100000 in
set_option maxHeartbeats 12800000 in
theorem pSame_any {w : World} {u v : Value} {a b : St} (hu : StV w u a) (hv : StV w v b) (ha : StB a) (hbB : StB b) (ia : StI a) (ib : StI b) :
    Calls Try.prog 15 #[u, v] w fun e w' => e = .returned (.bool (Dc (canD a = canD b))) ∧ Below w.heap.size w w' := by
  obtain ⟨ata, atc, aoa, aoc, aba, abc, rfl, -, -, -, -, -, -, -, -, -⟩ := hu.shape
  obtain ⟨bta, btc, boa, boc, bba, bbc, rfl, -, -, -, -, -, -, -, -, -⟩ := hv.shape
  have HU := hide (fun (W : World) (hb : Below w.heap.size w W) => hu.below hb (Nat.le_refl _))
  have HV := hide (fun (W : World) (hb : Below w.heap.size w W) => hv.below hb (Nat.le_refl _))
  have HSA := hide (canD_B ha)
  obtain ⟨aT, haT⟩ : ∃ n, Hid (a.texts.length = n) := ⟨_, hide rfl⟩
  obtain ⟨aO, haO⟩ : ∃ n, Hid (a.objs.length = n) := ⟨_, hide rfl⟩
  obtain ⟨aB, haB⟩ : ∃ n, Hid (a.fibs.length = n) := ⟨_, hide rfl⟩
  obtain ⟨bT, hbT⟩ : ∃ n, Hid (b.texts.length = n) := ⟨_, hide rfl⟩
  obtain ⟨bO, hbO⟩ : ∃ n, Hid (b.objs.length = n) := ⟨_, hide rfl⟩
  obtain ⟨bB, hbb⟩ : ∃ n, Hid (b.fibs.length = n) := ⟨_, hide rfl⟩
  obtain ⟨a1, ha1⟩ : ∃ n, Hid (a.cur = n) := ⟨_, hide rfl⟩
  obtain ⟨a2, ha2⟩ : ∃ n, Hid (a.steps = n) := ⟨_, hide rfl⟩
  obtain ⟨a3, ha3⟩ : ∃ n, Hid (a.spent = n) := ⟨_, hide rfl⟩
  obtain ⟨a4, ha4⟩ : ∃ n, Hid (a.read = n) := ⟨_, hide rfl⟩
  obtain ⟨b1, hb1⟩ : ∃ n, Hid (b.cur = n) := ⟨_, hide rfl⟩
  obtain ⟨b2, hb2⟩ : ∃ n, Hid (b.steps = n) := ⟨_, hide rfl⟩
  obtain ⟨b3, hb3⟩ : ∃ n, Hid (b.spent = n) := ⟨_, hide rfl⟩
  obtain ⟨b4, hb4⟩ : ∃ n, Hid (b.read = n) := ⟨_, hide rfl⟩
  rw [unhide haT, unhide haO, unhide haB, unhide ha1, unhide ha2, unhide ha3, unhide ha4] at HU ⊢
  rw [unhide hbT, unhide hbO, unhide hbb, unhide hb1, unhide hb2, unhide hb3, unhide hb4] at HV ⊢
  have HCA : Hid (∀ W, Below w.heap.size w W → Calls Try.prog 9 #[.agg #[.slice ata aT atc, .slice aoa aO aoc, .slice aba aB abc, .int .i64 a1, .int .i64 a2, .int .i64 a3, .int .i64 a4]] W (CnQ W (canD a))) := fun W hb => (pCanon_any (unhide HU W hb) ha ia).mono (fun _ _ q => q)
  have HCB : Hid (∀ W, Below w.heap.size w W → Calls Try.prog 9 #[.agg #[.slice bta bT btc, .slice boa bO boc, .slice bba bB bbc, .int .i64 b1, .int .i64 b2, .int .i64 b3, .int .i64 b4]] W (CnQ W (canD b))) := fun W hb => (pCanon_any (unhide HV W hb) hbB ib).mono (fun _ _ q => q)
  obtain ⟨D, hD⟩ : ∃ W, Hid (((w.alloc (.cells #[.slice ata aT atc, .slice aoa aO aoc, .slice aba aB abc, .int .i64 a1, .int .i64 a2, .int .i64 a3, .int .i64 a4] 26)).alloc (.cells #[.slice bta bT btc, .slice boa bO boc, .slice bba bB bbc, .int .i64 b1, .int .i64 b2, .int .i64 b3, .int .i64 b4] 26)).drew = W) := ⟨_, hide rfl⟩
  have fD : Below w.heap.size w D := by rw [← unhide hD]; exact bl_past (bl_two w _ _) (bl_drew _)
  obtain ⟨p1, p2⟩ := blk2 w (.cells #[.slice ata aT atc, .slice aoa aO aoc, .slice aba aB abc, .int .i64 a1, .int .i64 a2, .int .i64 a3, .int .i64 a4] 26) (.cells #[.slice bta bT btc, .slice boa bO boc, .slice bba bB bbc, .int .i64 b1, .int .i64 b2, .int .i64 b3, .int .i64 b4] 26)
  have n0 : D.heap[w.heap.size]? = some (.cells #[.slice ata aT atc, .slice aoa aO aoc, .slice aba aB abc, .int .i64 a1, .int .i64 a2, .int .i64 a3, .int .i64 a4] 26) := by rw [← unhide hD]; exact p1
  have n1 : D.heap[w.heap.size + 1]? = some (.cells #[.slice bta bT btc, .slice boa bO boc, .slice bba bB bbc, .int .i64 b1, .int .i64 b2, .int .i64 b3, .int .i64 b4] 26) := by rw [← unhide hD]; exact p2
  have HN0 := hide n0
  have HN1 := hide n1
  have HFD := hide fD
  obtain ⟨c0, -, l0⟩ := blk_cells n0
  obtain ⟨c1, -, l1⟩ := blk_cells n1
  have x0 := c0 0
  have y0 := c1 0
  have x1 := c0 1
  have y1 := c1 1
  have x2 := c0 2
  have y2 := c1 2
  have x3 := c0 3
  have y3 := c1 3
  have x4 := c0 4
  have y4 := c1 4
  have x5 := c0 5
  have y5 := c1 5
  have x6 := c0 6
  have y6 := c1 6
  simp at x0 x1 x2 x3 x4 x5 x6 y0 y1 y2 y3 y4 y5 y6
  clear hu hv p1 p2 n0 n1 fD c0 c1
  obtain ⟨ca, hca⟩ : ∃ c, Hid (canD a = c) := ⟨_, hide rfl⟩
  obtain ⟨cb, hcb⟩ : ∃ c, Hid (canD b = c) := ⟨_, hide rfl⟩
  rw [unhide hca] at HCA HSA
  rw [unhide hcb] at HCB
  rw [unhide hca, unhide hcb]
  obtain ⟨d, hd⟩ : ∃ d, Hid (Dc (ca = cb) = d) := ⟨_, hide rfl⟩
  rw [unhide hd]
  go_enter Try.func15, Try.ntmps15
  go_wp2_with fail
  go_cut [] from 5 (fun wc => Hid (SBx wc ca w.heap.size ∧ SBx wc cb (w.heap.size + 1) ∧ Below w.heap.size w wc))
  case first =>
    refine wp_region_held_drew (S := fun _ => True) (by kernel_rfl) trivial (fun _ => ?_)
    rw [unhide hD]
    refine wpAnyH_ready (rs := [0, 2]) (by kernel_rfl) (by simp) ?_
    refine AllReadyH.cons (o := _) rfl (fun K hK => ?_) (AllReadyH.cons (o := _) rfl (fun K hK => ?_) AllReadyH.nil)
    · go_simp
      refine hK.out _ _ trivial (fun _ => ?_)
      clear hK K
      go_simp
      refine wpAnyH_ready (rs := [1, 2]) (by kernel_rfl) (by simp) ?_
      refine AllReadyH.cons (o := _) rfl (fun K hK => ?_) (AllReadyH.cons (o := _) rfl (fun K hK => ?_) AllReadyH.nil)
      · go_simp
        refine (unhide HCA _ (unhide HFD)).mono ?_
        rintro e w1 hq1
        obtain ⟨va, rfl, C1⟩ := hq1.rd
        have hbw1 : Below D.heap.size D w1 := C1.1
        have HC1 := hide C1
        obtain ⟨pta', ptc', poa', poc', pba', pbc', rfl, -, -, -, -, -, -, -, -, -⟩ := (C1.2 (fun _ => False) w1 (Fr.refl _ _) (fun _ e => e.elim)).shape
        (try clear hq1)
        clear C1
        refine hK.out _ _ trivial (fun _ => ?_)
        clear hK K
        go_simp
        obtain ⟨c1, -, lyw⟩ := blk_cells (bkeep1 (unhide HN1) hbw1)
        have y0w := c1 0
        have y1w := c1 1
        have y2w := c1 2
        have y3w := c1 3
        have y4w := c1 4
        have y5w := c1 5
        have y6w := c1 6
        simp at y0w y1w y2w y3w y4w y5w y6w
        clear c1
        refine wpAnyH_ready (rs := [2]) (by kernel_rfl) (by simp) ?_
        refine AllReadyH.cons (o := _) rfl (fun K hK => ?_) AllReadyH.nil
        go_simp
        refine hK.out _ _ trivial (fun _ => ?_)
        clear hK K
        go_simp
        clear y0w y1w y2w y3w y4w y5w y6w
        refine wpAnyH_ready (rs := [3]) (by kernel_rfl) (by simp) ?_
        refine AllReadyH.cons (o := _) rfl (fun K hK => ?_) AllReadyH.nil
        go_simp
        refine (unhide HCB _ ((unhide HFD).trans (hbw1.mono (unhide HFD).size))).mono ?_
        rintro e w2 hq2
        obtain ⟨vb, rfl, C2⟩ := hq2.rd
        have hbw2 : Below w1.heap.size w1 w2 := C2.1
        have HC2 := hide C2
        obtain ⟨qta', qtc', qoa', qoc', qba', qbc', rfl, -, -, -, -, -, -, -, -, -⟩ := (C2.2 (fun _ => False) w2 (Fr.refl _ _) (fun _ e => e.elim)).shape
        (try clear hq2)
        clear C2
        refine hK.out _ _ trivial (fun _ => ?_)
        clear hK K
        go_simp
        have q0 := bkeep1 (bkeep1 (unhide HN0) hbw1) hbw2
        have q1 := bkeep1 (bkeep1 (unhide HN1) hbw1) hbw2
        obtain ⟨d0, e0, m0⟩ := blk_cells q0
        have u0 := d0 0
        have g0 := e0 0
        have u1 := d0 1
        have g1 := e0 1
        have u2 := d0 2
        have g2 := e0 2
        have u3 := d0 3
        have g3 := e0 3
        have u4 := d0 4
        have g4 := e0 4
        have u5 := d0 5
        have g5 := e0 5
        have u6 := d0 6
        have g6 := e0 6
        simp at u0 u1 u2 u3 u4 u5 u6
        obtain ⟨W3, hW3⟩ : ∃ W, Hid ((((((((w2.setCell ⟨w.heap.size, 0, none⟩ (.slice pta' ca.texts.length ptc')).setCell ⟨w.heap.size, 1, none⟩ (.slice poa' ca.objs.length poc')).setCell ⟨w.heap.size, 2, none⟩ (.slice pba' ca.fibs.length pbc')).setCell ⟨w.heap.size, 3, none⟩ (.int .i64 ca.cur)).setCell ⟨w.heap.size, 4, none⟩ (.int .i64 ca.steps)).setCell ⟨w.heap.size, 5, none⟩ (.int .i64 ca.spent)).setCell ⟨w.heap.size, 6, none⟩ (.int .i64 ca.read)) = W) := ⟨_, hide rfl⟩
        have r0 : W3.heap[w.heap.size]? = some (.cells #[.slice pta' ca.texts.length ptc', .slice poa' ca.objs.length poc', .slice pba' ca.fibs.length pbc', .int .i64 ca.cur, .int .i64 ca.steps, .int .i64 ca.spent, .int .i64 ca.read] 26) := by rw [← unhide hW3]; exact set7 q0 (.slice pta' ca.texts.length ptc') (.slice poa' ca.objs.length poc') (.slice pba' ca.fibs.length pbc') (.int .i64 ca.cur) (.int .i64 ca.steps) (.int .i64 ca.spent) (.int .i64 ca.read)
        have f3 : Fr (fun k => k = w.heap.size) w2 W3 := by rw [← unhide hW3]; exact fr_sets w2 w.heap.size 0 [.slice pta' ca.texts.length ptc', .slice poa' ca.objs.length poc', .slice pba' ca.fibs.length pbc', .int .i64 ca.cur, .int .i64 ca.steps, .int .i64 ca.spent, .int .i64 ca.read]
        have r1 := (f3.block _ (blk_cells q1).2.2 (by omega)).trans q1
        obtain ⟨d1, e1, m1⟩ := blk_cells r1
        have v0 := d1 0
        have h0 := e1 0
        have v1 := d1 1
        have h1 := e1 1
        have v2 := d1 2
        have h2 := e1 2
        have v3 := d1 3
        have h3 := e1 3
        have v4 := d1 4
        have h4 := e1 4
        have v5 := d1 5
        have h5 := e1 5
        have v6 := d1 6
        have h6 := e1 6
        simp at v0 v1 v2 v3 v4 v5 v6
        obtain ⟨W4, hW4⟩ : ∃ W, Hid ((((((((W3.setCell ⟨w.heap.size + 1, 0, none⟩ (.slice qta' cb.texts.length qtc')).setCell ⟨w.heap.size + 1, 1, none⟩ (.slice qoa' cb.objs.length qoc')).setCell ⟨w.heap.size + 1, 2, none⟩ (.slice qba' cb.fibs.length qbc')).setCell ⟨w.heap.size + 1, 3, none⟩ (.int .i64 cb.cur)).setCell ⟨w.heap.size + 1, 4, none⟩ (.int .i64 cb.steps)).setCell ⟨w.heap.size + 1, 5, none⟩ (.int .i64 cb.spent)).setCell ⟨w.heap.size + 1, 6, none⟩ (.int .i64 cb.read)) = W) := ⟨_, hide rfl⟩
        have s1 : W4.heap[w.heap.size + 1]? = some (.cells #[.slice qta' cb.texts.length qtc', .slice qoa' cb.objs.length qoc', .slice qba' cb.fibs.length qbc', .int .i64 cb.cur, .int .i64 cb.steps, .int .i64 cb.spent, .int .i64 cb.read] 26) := by rw [← unhide hW4]; exact set7 r1 (.slice qta' cb.texts.length qtc') (.slice qoa' cb.objs.length qoc') (.slice qba' cb.fibs.length qbc') (.int .i64 cb.cur) (.int .i64 cb.steps) (.int .i64 cb.spent) (.int .i64 cb.read)
        have f4 : Fr (fun k => k = w.heap.size + 1) W3 W4 := by rw [← unhide hW4]; exact fr_sets W3 (w.heap.size + 1) 0 [.slice qta' cb.texts.length qtc', .slice qoa' cb.objs.length qoc', .slice qba' cb.fibs.length qbc', .int .i64 cb.cur, .int .i64 cb.steps, .int .i64 cb.spent, .int .i64 cb.read]
        have s0 := (f4.block _ (blk_cells r0).2.2 (by omega)).trans r0
        have f24 : Fr (fun k => k = w.heap.size ∨ k = w.heap.size + 1) w2 W4 := (f3.mono (fun _ _ e => .inl e)).trans (f4.mono (fun _ _ e => .inr e))
        have HREL : Hid (SBx W4 ca w.heap.size ∧ SBx W4 cb (w.heap.size + 1) ∧ Below w.heap.size w W4) := by
          have hD1 : w.heap.size + 1 < D.heap.size := (blk_cells (unhide HN1)).2.2
          have hs1 := hbw1.size
          have hs2 := hbw2.size
          refine ⟨⟨_, s0, (unhide HC1).2 (fun k => k = w.heap.size ∨ k = w.heap.size + 1) W4 ((Fr.of_below hbw2).trans f24) (fun k hk => by rcases hk with e | e <;> (left; omega))⟩, ⟨_, s1, (unhide HC2).2 (fun k => k = w.heap.size ∨ k = w.heap.size + 1) W4 f24 (fun k hk => by rcases hk with e | e <;> (left; omega))⟩, ?_⟩
          exact ((unhide HFD).trans ((bl_past hbw1 hbw2).mono (unhide HFD).size)).trans (f24.below (by have := (unhide HFD).size; omega) (fun k hk e => by omega))
        clear q0 q1 d0 e0 r0 r1 d1 e1 s0 s1 f3 f4 f24
        refine wpAnyH_ready (rs := [4]) (by kernel_rfl) (by simp) ?_
        refine AllReadyH.cons (o := _) rfl (fun K hK => ?_) AllReadyH.nil
        go_simp
        rw [unhide hW3]
        refine hK.out _ _ trivial (fun _ => ?_)
        clear hK K
        go_simp
        refine wpAnyH_ready (rs := [5]) (by kernel_rfl) (by simp) ?_
        refine AllReadyH.cons (o := _) rfl (fun K hK => ?_) AllReadyH.nil
        go_simp
        rw [unhide hW4]
        refine hK.out _ _ trivial (fun _ => ?_)
        clear hK K
        refine wpAnyH_done (by kernel_rfl) ?_ _
        go_wp2_with fail
        go_meet
        case rel => exact HREL
      · go_simp
        refine hK.out _ _ trivial (fun _ => ?_)
        clear hK K
        go_simp
        refine wpAnyH_ready (rs := [1]) (by kernel_rfl) (by simp) ?_
        refine AllReadyH.cons (o := _) rfl (fun K hK => ?_) AllReadyH.nil
        go_simp
        refine (unhide HCA _ (unhide HFD)).mono ?_
        rintro e w1 hq1
        obtain ⟨va, rfl, C1⟩ := hq1.rd
        have hbw1 : Below D.heap.size D w1 := C1.1
        have HC1 := hide C1
        obtain ⟨pta', ptc', poa', poc', pba', pbc', rfl, -, -, -, -, -, -, -, -, -⟩ := (C1.2 (fun _ => False) w1 (Fr.refl _ _) (fun _ e => e.elim)).shape
        (try clear hq1)
        clear C1
        refine hK.out _ _ trivial (fun _ => ?_)
        clear hK K
        go_simp
        refine wpAnyH_ready (rs := [3]) (by kernel_rfl) (by simp) ?_
        refine AllReadyH.cons (o := _) rfl (fun K hK => ?_) AllReadyH.nil
        go_simp
        refine (unhide HCB _ ((unhide HFD).trans (hbw1.mono (unhide HFD).size))).mono ?_
        rintro e w2 hq2
        obtain ⟨vb, rfl, C2⟩ := hq2.rd
        have hbw2 : Below w1.heap.size w1 w2 := C2.1
        have HC2 := hide C2
        obtain ⟨qta', qtc', qoa', qoc', qba', qbc', rfl, -, -, -, -, -, -, -, -, -⟩ := (C2.2 (fun _ => False) w2 (Fr.refl _ _) (fun _ e => e.elim)).shape
        (try clear hq2)
        clear C2
        refine hK.out _ _ trivial (fun _ => ?_)
        clear hK K
        go_simp
        have q0 := bkeep1 (bkeep1 (unhide HN0) hbw1) hbw2
        have q1 := bkeep1 (bkeep1 (unhide HN1) hbw1) hbw2
        obtain ⟨d0, e0, m0⟩ := blk_cells q0
        have u0 := d0 0
        have g0 := e0 0
        have u1 := d0 1
        have g1 := e0 1
        have u2 := d0 2
        have g2 := e0 2
        have u3 := d0 3
        have g3 := e0 3
        have u4 := d0 4
        have g4 := e0 4
        have u5 := d0 5
        have g5 := e0 5
        have u6 := d0 6
        have g6 := e0 6
        simp at u0 u1 u2 u3 u4 u5 u6
        obtain ⟨W3, hW3⟩ : ∃ W, Hid ((((((((w2.setCell ⟨w.heap.size, 0, none⟩ (.slice pta' ca.texts.length ptc')).setCell ⟨w.heap.size, 1, none⟩ (.slice poa' ca.objs.length poc')).setCell ⟨w.heap.size, 2, none⟩ (.slice pba' ca.fibs.length pbc')).setCell ⟨w.heap.size, 3, none⟩ (.int .i64 ca.cur)).setCell ⟨w.heap.size, 4, none⟩ (.int .i64 ca.steps)).setCell ⟨w.heap.size, 5, none⟩ (.int .i64 ca.spent)).setCell ⟨w.heap.size, 6, none⟩ (.int .i64 ca.read)) = W) := ⟨_, hide rfl⟩
        have r0 : W3.heap[w.heap.size]? = some (.cells #[.slice pta' ca.texts.length ptc', .slice poa' ca.objs.length poc', .slice pba' ca.fibs.length pbc', .int .i64 ca.cur, .int .i64 ca.steps, .int .i64 ca.spent, .int .i64 ca.read] 26) := by rw [← unhide hW3]; exact set7 q0 (.slice pta' ca.texts.length ptc') (.slice poa' ca.objs.length poc') (.slice pba' ca.fibs.length pbc') (.int .i64 ca.cur) (.int .i64 ca.steps) (.int .i64 ca.spent) (.int .i64 ca.read)
        have f3 : Fr (fun k => k = w.heap.size) w2 W3 := by rw [← unhide hW3]; exact fr_sets w2 w.heap.size 0 [.slice pta' ca.texts.length ptc', .slice poa' ca.objs.length poc', .slice pba' ca.fibs.length pbc', .int .i64 ca.cur, .int .i64 ca.steps, .int .i64 ca.spent, .int .i64 ca.read]
        have r1 := (f3.block _ (blk_cells q1).2.2 (by omega)).trans q1
        obtain ⟨d1, e1, m1⟩ := blk_cells r1
        have v0 := d1 0
        have h0 := e1 0
        have v1 := d1 1
        have h1 := e1 1
        have v2 := d1 2
        have h2 := e1 2
        have v3 := d1 3
        have h3 := e1 3
        have v4 := d1 4
        have h4 := e1 4
        have v5 := d1 5
        have h5 := e1 5
        have v6 := d1 6
        have h6 := e1 6
        simp at v0 v1 v2 v3 v4 v5 v6
        obtain ⟨W4, hW4⟩ : ∃ W, Hid ((((((((W3.setCell ⟨w.heap.size + 1, 0, none⟩ (.slice qta' cb.texts.length qtc')).setCell ⟨w.heap.size + 1, 1, none⟩ (.slice qoa' cb.objs.length qoc')).setCell ⟨w.heap.size + 1, 2, none⟩ (.slice qba' cb.fibs.length qbc')).setCell ⟨w.heap.size + 1, 3, none⟩ (.int .i64 cb.cur)).setCell ⟨w.heap.size + 1, 4, none⟩ (.int .i64 cb.steps)).setCell ⟨w.heap.size + 1, 5, none⟩ (.int .i64 cb.spent)).setCell ⟨w.heap.size + 1, 6, none⟩ (.int .i64 cb.read)) = W) := ⟨_, hide rfl⟩
        have s1 : W4.heap[w.heap.size + 1]? = some (.cells #[.slice qta' cb.texts.length qtc', .slice qoa' cb.objs.length qoc', .slice qba' cb.fibs.length qbc', .int .i64 cb.cur, .int .i64 cb.steps, .int .i64 cb.spent, .int .i64 cb.read] 26) := by rw [← unhide hW4]; exact set7 r1 (.slice qta' cb.texts.length qtc') (.slice qoa' cb.objs.length qoc') (.slice qba' cb.fibs.length qbc') (.int .i64 cb.cur) (.int .i64 cb.steps) (.int .i64 cb.spent) (.int .i64 cb.read)
        have f4 : Fr (fun k => k = w.heap.size + 1) W3 W4 := by rw [← unhide hW4]; exact fr_sets W3 (w.heap.size + 1) 0 [.slice qta' cb.texts.length qtc', .slice qoa' cb.objs.length qoc', .slice qba' cb.fibs.length qbc', .int .i64 cb.cur, .int .i64 cb.steps, .int .i64 cb.spent, .int .i64 cb.read]
        have s0 := (f4.block _ (blk_cells r0).2.2 (by omega)).trans r0
        have f24 : Fr (fun k => k = w.heap.size ∨ k = w.heap.size + 1) w2 W4 := (f3.mono (fun _ _ e => .inl e)).trans (f4.mono (fun _ _ e => .inr e))
        have HREL : Hid (SBx W4 ca w.heap.size ∧ SBx W4 cb (w.heap.size + 1) ∧ Below w.heap.size w W4) := by
          have hD1 : w.heap.size + 1 < D.heap.size := (blk_cells (unhide HN1)).2.2
          have hs1 := hbw1.size
          have hs2 := hbw2.size
          refine ⟨⟨_, s0, (unhide HC1).2 (fun k => k = w.heap.size ∨ k = w.heap.size + 1) W4 ((Fr.of_below hbw2).trans f24) (fun k hk => by rcases hk with e | e <;> (left; omega))⟩, ⟨_, s1, (unhide HC2).2 (fun k => k = w.heap.size ∨ k = w.heap.size + 1) W4 f24 (fun k hk => by rcases hk with e | e <;> (left; omega))⟩, ?_⟩
          exact ((unhide HFD).trans ((bl_past hbw1 hbw2).mono (unhide HFD).size)).trans (f24.below (by have := (unhide HFD).size; omega) (fun k hk e => by omega))
        clear q0 q1 d0 e0 r0 r1 d1 e1 s0 s1 f3 f4 f24
        refine wpAnyH_ready (rs := [4]) (by kernel_rfl) (by simp) ?_
        refine AllReadyH.cons (o := _) rfl (fun K hK => ?_) AllReadyH.nil
        go_simp
        rw [unhide hW3]
        refine hK.out _ _ trivial (fun _ => ?_)
        clear hK K
        go_simp
        refine wpAnyH_ready (rs := [5]) (by kernel_rfl) (by simp) ?_
        refine AllReadyH.cons (o := _) rfl (fun K hK => ?_) AllReadyH.nil
        go_simp
        rw [unhide hW4]
        refine hK.out _ _ trivial (fun _ => ?_)
        clear hK K
        refine wpAnyH_done (by kernel_rfl) ?_ _
        go_wp2_with fail
        go_meet
        case rel => exact HREL
    · go_simp
      refine hK.out _ _ trivial (fun _ => ?_)
      clear hK K
      go_simp
      refine wpAnyH_ready (rs := [0]) (by kernel_rfl) (by simp) ?_
      refine AllReadyH.cons (o := _) rfl (fun K hK => ?_) AllReadyH.nil
      go_simp
      refine hK.out _ _ trivial (fun _ => ?_)
      clear hK K
      go_simp
      refine wpAnyH_ready (rs := [1]) (by kernel_rfl) (by simp) ?_
      refine AllReadyH.cons (o := _) rfl (fun K hK => ?_) AllReadyH.nil
      go_simp
      refine (unhide HCA _ (unhide HFD)).mono ?_
      rintro e w1 hq1
      obtain ⟨va, rfl, C1⟩ := hq1.rd
      have hbw1 : Below D.heap.size D w1 := C1.1
      have HC1 := hide C1
      obtain ⟨pta', ptc', poa', poc', pba', pbc', rfl, -, -, -, -, -, -, -, -, -⟩ := (C1.2 (fun _ => False) w1 (Fr.refl _ _) (fun _ e => e.elim)).shape
      (try clear hq1)
      clear C1
      refine hK.out _ _ trivial (fun _ => ?_)
      clear hK K
      go_simp
      refine wpAnyH_ready (rs := [3]) (by kernel_rfl) (by simp) ?_
      refine AllReadyH.cons (o := _) rfl (fun K hK => ?_) AllReadyH.nil
      go_simp
      refine (unhide HCB _ ((unhide HFD).trans (hbw1.mono (unhide HFD).size))).mono ?_
      rintro e w2 hq2
      obtain ⟨vb, rfl, C2⟩ := hq2.rd
      have hbw2 : Below w1.heap.size w1 w2 := C2.1
      have HC2 := hide C2
      obtain ⟨qta', qtc', qoa', qoc', qba', qbc', rfl, -, -, -, -, -, -, -, -, -⟩ := (C2.2 (fun _ => False) w2 (Fr.refl _ _) (fun _ e => e.elim)).shape
      (try clear hq2)
      clear C2
      refine hK.out _ _ trivial (fun _ => ?_)
      clear hK K
      go_simp
      have q0 := bkeep1 (bkeep1 (unhide HN0) hbw1) hbw2
      have q1 := bkeep1 (bkeep1 (unhide HN1) hbw1) hbw2
      obtain ⟨d0, e0, m0⟩ := blk_cells q0
      have u0 := d0 0
      have g0 := e0 0
      have u1 := d0 1
      have g1 := e0 1
      have u2 := d0 2
      have g2 := e0 2
      have u3 := d0 3
      have g3 := e0 3
      have u4 := d0 4
      have g4 := e0 4
      have u5 := d0 5
      have g5 := e0 5
      have u6 := d0 6
      have g6 := e0 6
      simp at u0 u1 u2 u3 u4 u5 u6
      obtain ⟨W3, hW3⟩ : ∃ W, Hid ((((((((w2.setCell ⟨w.heap.size, 0, none⟩ (.slice pta' ca.texts.length ptc')).setCell ⟨w.heap.size, 1, none⟩ (.slice poa' ca.objs.length poc')).setCell ⟨w.heap.size, 2, none⟩ (.slice pba' ca.fibs.length pbc')).setCell ⟨w.heap.size, 3, none⟩ (.int .i64 ca.cur)).setCell ⟨w.heap.size, 4, none⟩ (.int .i64 ca.steps)).setCell ⟨w.heap.size, 5, none⟩ (.int .i64 ca.spent)).setCell ⟨w.heap.size, 6, none⟩ (.int .i64 ca.read)) = W) := ⟨_, hide rfl⟩
      have r0 : W3.heap[w.heap.size]? = some (.cells #[.slice pta' ca.texts.length ptc', .slice poa' ca.objs.length poc', .slice pba' ca.fibs.length pbc', .int .i64 ca.cur, .int .i64 ca.steps, .int .i64 ca.spent, .int .i64 ca.read] 26) := by rw [← unhide hW3]; exact set7 q0 (.slice pta' ca.texts.length ptc') (.slice poa' ca.objs.length poc') (.slice pba' ca.fibs.length pbc') (.int .i64 ca.cur) (.int .i64 ca.steps) (.int .i64 ca.spent) (.int .i64 ca.read)
      have f3 : Fr (fun k => k = w.heap.size) w2 W3 := by rw [← unhide hW3]; exact fr_sets w2 w.heap.size 0 [.slice pta' ca.texts.length ptc', .slice poa' ca.objs.length poc', .slice pba' ca.fibs.length pbc', .int .i64 ca.cur, .int .i64 ca.steps, .int .i64 ca.spent, .int .i64 ca.read]
      have r1 := (f3.block _ (blk_cells q1).2.2 (by omega)).trans q1
      obtain ⟨d1, e1, m1⟩ := blk_cells r1
      have v0 := d1 0
      have h0 := e1 0
      have v1 := d1 1
      have h1 := e1 1
      have v2 := d1 2
      have h2 := e1 2
      have v3 := d1 3
      have h3 := e1 3
      have v4 := d1 4
      have h4 := e1 4
      have v5 := d1 5
      have h5 := e1 5
      have v6 := d1 6
      have h6 := e1 6
      simp at v0 v1 v2 v3 v4 v5 v6
      obtain ⟨W4, hW4⟩ : ∃ W, Hid ((((((((W3.setCell ⟨w.heap.size + 1, 0, none⟩ (.slice qta' cb.texts.length qtc')).setCell ⟨w.heap.size + 1, 1, none⟩ (.slice qoa' cb.objs.length qoc')).setCell ⟨w.heap.size + 1, 2, none⟩ (.slice qba' cb.fibs.length qbc')).setCell ⟨w.heap.size + 1, 3, none⟩ (.int .i64 cb.cur)).setCell ⟨w.heap.size + 1, 4, none⟩ (.int .i64 cb.steps)).setCell ⟨w.heap.size + 1, 5, none⟩ (.int .i64 cb.spent)).setCell ⟨w.heap.size + 1, 6, none⟩ (.int .i64 cb.read)) = W) := ⟨_, hide rfl⟩
      have s1 : W4.heap[w.heap.size + 1]? = some (.cells #[.slice qta' cb.texts.length qtc', .slice qoa' cb.objs.length qoc', .slice qba' cb.fibs.length qbc', .int .i64 cb.cur, .int .i64 cb.steps, .int .i64 cb.spent, .int .i64 cb.read] 26) := by rw [← unhide hW4]; exact set7 r1 (.slice qta' cb.texts.length qtc') (.slice qoa' cb.objs.length qoc') (.slice qba' cb.fibs.length qbc') (.int .i64 cb.cur) (.int .i64 cb.steps) (.int .i64 cb.spent) (.int .i64 cb.read)
      have f4 : Fr (fun k => k = w.heap.size + 1) W3 W4 := by rw [← unhide hW4]; exact fr_sets W3 (w.heap.size + 1) 0 [.slice qta' cb.texts.length qtc', .slice qoa' cb.objs.length qoc', .slice qba' cb.fibs.length qbc', .int .i64 cb.cur, .int .i64 cb.steps, .int .i64 cb.spent, .int .i64 cb.read]
      have s0 := (f4.block _ (blk_cells r0).2.2 (by omega)).trans r0
      have f24 : Fr (fun k => k = w.heap.size ∨ k = w.heap.size + 1) w2 W4 := (f3.mono (fun _ _ e => .inl e)).trans (f4.mono (fun _ _ e => .inr e))
      have HREL : Hid (SBx W4 ca w.heap.size ∧ SBx W4 cb (w.heap.size + 1) ∧ Below w.heap.size w W4) := by
        have hD1 : w.heap.size + 1 < D.heap.size := (blk_cells (unhide HN1)).2.2
        have hs1 := hbw1.size
        have hs2 := hbw2.size
        refine ⟨⟨_, s0, (unhide HC1).2 (fun k => k = w.heap.size ∨ k = w.heap.size + 1) W4 ((Fr.of_below hbw2).trans f24) (fun k hk => by rcases hk with e | e <;> (left; omega))⟩, ⟨_, s1, (unhide HC2).2 (fun k => k = w.heap.size ∨ k = w.heap.size + 1) W4 f24 (fun k hk => by rcases hk with e | e <;> (left; omega))⟩, ?_⟩
        exact ((unhide HFD).trans ((bl_past hbw1 hbw2).mono (unhide HFD).size)).trans (f24.below (by have := (unhide HFD).size; omega) (fun k hk e => by omega))
      clear q0 q1 d0 e0 r0 r1 d1 e1 s0 s1 f3 f4 f24
      refine wpAnyH_ready (rs := [4]) (by kernel_rfl) (by simp) ?_
      refine AllReadyH.cons (o := _) rfl (fun K hK => ?_) AllReadyH.nil
      go_simp
      rw [unhide hW3]
      refine hK.out _ _ trivial (fun _ => ?_)
      clear hK K
      go_simp
      refine wpAnyH_ready (rs := [5]) (by kernel_rfl) (by simp) ?_
      refine AllReadyH.cons (o := _) rfl (fun K hK => ?_) AllReadyH.nil
      go_simp
      rw [unhide hW4]
      refine hK.out _ _ trivial (fun _ => ?_)
      clear hK K
      refine wpAnyH_done (by kernel_rfl) ?_ _
      go_wp2_with fail
      go_meet
      case rel => exact HREL
  case rest =>
    obtain ⟨⟨aA, na, hsa⟩, ⟨aB', nb, hsb⟩, hbc⟩ := unhide hcut
    have HBC := hide hbc
    obtain ⟨ta, tc, oa, oc, ba, bc, eA, rt, ro, rb, t1, t2, o1, o2, b1', b2'⟩ := hsa.shape
    obtain ⟨ta', tc', oa', oc', ba', bc', eB, rt', ro', rb', t1', t2', o1', o2', b1'', b2''⟩ := hsb.shape
    injection eA with eA
    injection eB with eB
    subst eA eB
    have K0 := hide na
    have K1 := hide nb
    have hwN : w.heap.size + 1 < wc.heap.size := (blk_cells nb).2.2
    have H1 := hide (fun w1 (hb : Below wc.heap.size wc w1) => eqBs_any (rb.below hb (Nat.le_refl _)) (rb'.below hb (Nat.le_refl _)) (unhide HSA).bl (unhide HSA).bs)
    have H2 := hide (fun w1 (hb : Below wc.heap.size wc w1) => eqT_any (rt.below hb (Nat.le_refl _)) (rt'.below hb (Nat.le_refl _)) (by have := (unhide HSA).tl; omega))
    have H3 := hide (fun w1 (hb : Below wc.heap.size wc w1) => eqOs_any (ro.below hb (Nat.le_refl _)) (ro'.below hb (Nat.le_refl _)) (unhide HSA).ol (unhide HSA).os)
    have HSK : Hid (∀ W, Below wc.heap.size wc W → W.cell? ⟨w.heap.size, 0, none⟩ = some (.slice ta ca.texts.length tc) ∧ W.cell? ⟨w.heap.size, 1, none⟩ = some (.slice oa ca.objs.length oc) ∧ W.cell? ⟨w.heap.size, 2, none⟩ = some (.slice ba ca.fibs.length bc) ∧ W.cell? ⟨w.heap.size, 3, none⟩ = some (.int .i64 ca.cur) ∧ W.cell? ⟨w.heap.size, 4, none⟩ = some (.int .i64 ca.steps) ∧ W.cell? ⟨w.heap.size, 5, none⟩ = some (.int .i64 ca.spent) ∧ W.cell? ⟨w.heap.size, 6, none⟩ = some (.int .i64 ca.read) ∧ W.cell? ⟨w.heap.size + 1, 0, none⟩ = some (.slice ta' cb.texts.length tc') ∧ W.cell? ⟨w.heap.size + 1, 1, none⟩ = some (.slice oa' cb.objs.length oc') ∧ W.cell? ⟨w.heap.size + 1, 2, none⟩ = some (.slice ba' cb.fibs.length bc') ∧ W.cell? ⟨w.heap.size + 1, 3, none⟩ = some (.int .i64 cb.cur) ∧ W.cell? ⟨w.heap.size + 1, 4, none⟩ = some (.int .i64 cb.steps) ∧ W.cell? ⟨w.heap.size + 1, 5, none⟩ = some (.int .i64 cb.spent) ∧ W.cell? ⟨w.heap.size + 1, 6, none⟩ = some (.int .i64 cb.read)) := fun W hW => by
      have c0 := (blk_cells (bkeep1 (unhide K0) hW)).1
      have c1 := (blk_cells (bkeep1 (unhide K1) hW)).1
      exact ⟨by rw [c0 0]; rfl, by rw [c0 1]; rfl, by rw [c0 2]; rfl, by rw [c0 3]; rfl, by rw [c0 4]; rfl, by rw [c0 5]; rfl, by rw [c0 6]; rfl, by rw [c1 0]; rfl, by rw [c1 1]; rfl, by rw [c1 2]; rfl, by rw [c1 3]; rfl, by rw [c1 4]; rfl, by rw [c1 5]; rfl, by rw [c1 6]; rfl⟩
    obtain ⟨xt, xo, xb, c, st, sp, rd⟩ := ca
    obtain ⟨yt, yo, yb, c', st', sp', rd'⟩ := cb
    simp only at HSK H1 H2 H3 t1 o1 b1' t1' o1' b1'' ⊢
    obtain ⟨NXT, hNXT⟩ : ∃ n, Hid (xt.length = n) := ⟨_, hide rfl⟩
    obtain ⟨NXO, hNXO⟩ : ∃ n, Hid (xo.length = n) := ⟨_, hide rfl⟩
    obtain ⟨NXB, hNXB⟩ : ∃ n, Hid (xb.length = n) := ⟨_, hide rfl⟩
    obtain ⟨NYT, hNYT⟩ : ∃ n, Hid (yt.length = n) := ⟨_, hide rfl⟩
    obtain ⟨NYO, hNYO⟩ : ∃ n, Hid (yo.length = n) := ⟨_, hide rfl⟩
    obtain ⟨NYB, hNYB⟩ : ∃ n, Hid (yb.length = n) := ⟨_, hide rfl⟩
    rw [unhide hNXT, unhide hNXO, unhide hNXB, unhide hNYT, unhide hNYO, unhide hNYB] at HSK
    rw [unhide hNXB, unhide hNYB] at H1
    rw [unhide hNXT, unhide hNYT] at H2
    rw [unhide hNXO, unhide hNYO] at H3
    clear hcut hsa hsb hbc na nb rt ro rb rt' ro' rb' t1 t2 o1 o2 b1' b2' t1' t2' o1' o2' b1'' b2'' x0 x1 x2 x3 x4 x5 x6 y0 y1 y2 y3 y4 y5 y6
    by_cases e1 : c = c'
    case neg =>
      have hdv : d = false := by rw [← unhide hd]; exact Dc_false (fun e => e1 (by cases e; rfl))
      subst hdv
      have d2 : (c == c') = false := by simpa using e1
      clear H1 H2 H3 e1
      obtain ⟨z0, z1, z2, z3, z4, z5, z6, z7, z8, z9, z10, z11, z12, z13⟩ := unhide HSK _ (Below.refl _ _)
      go_wp2_with fail
      go_ret
      exact ⟨rfl, unhide HBC⟩
    subst e1
    by_cases e2 : st = st'
    case neg =>
      have hdv : d = false := by rw [← unhide hd]; exact Dc_false (fun e => e2 (by cases e; rfl))
      subst hdv
      have d2 : (st == st') = false := by simpa using e2
      clear H1 H2 H3 e2
      obtain ⟨z0, z1, z2, z3, z4, z5, z6, z7, z8, z9, z10, z11, z12, z13⟩ := unhide HSK _ (Below.refl _ _)
      go_wp2_with fail
      go_ret
      exact ⟨rfl, unhide HBC⟩
    subst e2
    by_cases e3 : sp = sp'
    case neg =>
      have hdv : d = false := by rw [← unhide hd]; exact Dc_false (fun e => e3 (by cases e; rfl))
      subst hdv
      have d2 : (sp == sp') = false := by simpa using e3
      clear H1 H2 H3 e3
      obtain ⟨z0, z1, z2, z3, z4, z5, z6, z7, z8, z9, z10, z11, z12, z13⟩ := unhide HSK _ (Below.refl _ _)
      go_wp2_with fail
      go_ret
      exact ⟨rfl, unhide HBC⟩
    subst e3
    by_cases e4 : rd = rd'
    case neg =>
      have hdv : d = false := by rw [← unhide hd]; exact Dc_false (fun e => e4 (by cases e; rfl))
      subst hdv
      have d2 : (rd == rd') = false := by simpa using e4
      clear H1 H2 H3 e4
      obtain ⟨z0, z1, z2, z3, z4, z5, z6, z7, z8, z9, z10, z11, z12, z13⟩ := unhide HSK _ (Below.refl _ _)
      go_wp2_with fail
      go_ret
      exact ⟨rfl, unhide HBC⟩
    subst e4
    have ed : Dc ((⟨xt, xo, xb, c, st, sp, rd⟩ : St) = ⟨yt, yo, yb, c, st, sp, rd⟩) = Dc (xb = yb ∧ xt = yt ∧ xo = yo) := Dc_congr ⟨fun e => by cases e; exact ⟨rfl, rfl, rfl⟩, fun e => by rw [e.1, e.2.1, e.2.2]⟩
    rw [ed] at hd
    clear ed
    by_cases e5 : xb = yb
    case neg =>
      have hdv : d = false := by rw [← unhide hd]; exact Dc_false (fun e => e5 e.1)
      subst hdv
      rw [Dc_false e5] at H1
      clear H2 H3 e5
      obtain ⟨z0, z1, z2, z3, z4, z5, z6, z7, z8, z9, z10, z11, z12, z13⟩ := unhide HSK _ (Below.refl _ _)
      go_wp2_with fail
      refine (unhide H1 _ (Below.refl _ _)).mono ?_
      rintro e w1 ⟨rfl, hB1⟩
      have HB1 := hide hB1
      clear hB1 H1
      go_wp2_with fail
      go_ret
      exact ⟨rfl, (unhide HBC).trans ((unhide HB1).mono (unhide HBC).size)⟩
    rw [Dc_true e5] at H1
    by_cases e6 : xt = yt
    case neg =>
      have hdv : d = false := by rw [← unhide hd]; exact Dc_false (fun e => e6 e.2.1)
      subst hdv
      rw [Dc_false e6] at H2
      clear H3 e5 e6
      obtain ⟨z0, z1, z2, z3, z4, z5, z6, z7, z8, z9, z10, z11, z12, z13⟩ := unhide HSK _ (Below.refl _ _)
      go_wp2_with fail
      refine (unhide H1 _ (Below.refl _ _)).mono ?_
      rintro e w1 ⟨rfl, hB1⟩
      have HB1 := hide hB1
      clear hB1 H1
      obtain ⟨k0, k1, k2, k3, k4, k5, k6, k7, k8, k9, k10, k11, k12, k13⟩ := unhide HSK _ (unhide HB1)
      clear z0 z1 z2 z3 z4 z5 z6 z7 z8 z9 z10 z11 z12 z13
      go_wp2_with fail
      refine (unhide H2 _ (unhide HB1)).mono ?_
      rintro e w2 ⟨rfl, hB2⟩
      have HB2 := hide (bl_past (unhide HB1) hB2)
      clear hB2 H2
      go_wp2_with fail
      go_ret
      exact ⟨rfl, (unhide HBC).trans ((unhide HB2).mono (unhide HBC).size)⟩
    rw [Dc_true e6] at H2
    have ed : Dc (xb = yb ∧ xt = yt ∧ xo = yo) = Dc (xo = yo) := Dc_congr ⟨fun e => e.2.2, fun e => ⟨e5, e6, e⟩⟩
    rw [ed] at hd
    rw [unhide hd] at H3
    clear ed e5 e6
    obtain ⟨z0, z1, z2, z3, z4, z5, z6, z7, z8, z9, z10, z11, z12, z13⟩ := unhide HSK _ (Below.refl _ _)
    go_wp2_with fail
    refine (unhide H1 _ (Below.refl _ _)).mono ?_
    rintro e w1 ⟨rfl, hB1⟩
    have HB1 := hide hB1
    clear hB1 H1
    obtain ⟨k0, k1, k2, k3, k4, k5, k6, k7, k8, k9, k10, k11, k12, k13⟩ := unhide HSK _ (unhide HB1)
    clear z0 z1 z2 z3 z4 z5 z6 z7 z8 z9 z10 z11 z12 z13
    go_wp2_with fail
    refine (unhide H2 _ (unhide HB1)).mono ?_
    rintro e w2 ⟨rfl, hB2⟩
    have HB2 := hide (bl_past (unhide HB1) hB2)
    clear hB2 H2
    obtain ⟨l0, l1, l2, l3, l4, l5, l6, l7, l8, l9, l10, l11, l12, l13⟩ := unhide HSK _ (unhide HB2)
    clear k0 k1 k2 k3 k4 k5 k6 k7 k8 k9 k10 k11 k12 k13
    go_wp2_with fail
    refine (unhide H3 _ (unhide HB2)).mono ?_
    rintro e w3 ⟨rfl, hB3⟩
    have HB3 := hide (bl_past (unhide HB2) hB3)
    clear hB3 H3
    go_wp2_with fail
    go_ret
    exact ⟨rfl, (unhide HBC).trans ((unhide HB3).mono (unhide HBC).size)⟩
end Go.Proofs.Ytadgiccfjppnfaa
