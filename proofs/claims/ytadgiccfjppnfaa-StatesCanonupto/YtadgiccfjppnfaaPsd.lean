/-
  Same, of the program and of the document.
-/
import Derived.Test.YtadgiccfjppnfaaPef
import Derived.Deep.Cut
import Derived.Test.YtadgiccfjppnfaaLnt
namespace Go.Proofs.Ytadgiccfjppnfaa
open Go.RowKit
set_option linter.unusedVariables false
set_option linter.unusedSimpArgs false
/-- What is found is no greater. -/
theorem canD_B {s : St} (h : StB s) : StB (canD s) := by
  rw [canD_eq]
  have hm := metA_ok s
  have h1 := pigeon _ _ hm.d1 hm.b1
  have h2 := pigeon _ _ hm.d2 hm.b2
  refine ⟨?_, ?_, ?_, fun o ho => ?_, fun b hb => ?_⟩
  · show ((metA s).1.map _).length ≤ _
    rw [List.length_map]; have := h.tl; omega
  · show ((metA s).2.map _).length ≤ _
    rw [List.length_map]; have := h.ol; omega
  · show (s.fibs.map _).length ≤ _
    rw [List.length_map]; exact h.bl
  · obtain ⟨j, hj, rfl⟩ := List.mem_map.1 ho
    have hjl : j < s.objs.length := hm.b2 j hj
    have hg : s.objs.getD j nob = s.objs[j] := by rw [List.getD_eq_getElem?_getD, List.getElem?_eq_getElem hjl]; rfl
    rw [hg]
    have := h.os s.objs[j] (List.getElem_mem _)
    refine ⟨?_, ?_⟩
    · show (s.objs[j].its.map _).length ≤ _
      rw [List.length_map]; exact this.1
    · show (if s.objs[j].kind = 7 then s.objs[j].keys.map _ else s.objs[j].keys).length ≤ _
      split
      · rw [List.length_map]; exact this.2
      · exact this.2
  · obtain ⟨c, hc, rfl⟩ := List.mem_map.1 hb
    have := h.bs c hc
    refine ⟨by rw [List.length_map]; exact this.1, fun f hf => ?_⟩
    obtain ⟨g, hg, rfl⟩ := List.mem_map.1 hf
    show (g.sl.map _).length ≤ _
    rw [List.length_map]
    exact this.2 g hg
/-- A box that holds a state, which can be read. -/
def SBx (W : World) (s : St) (n : Nat) : Prop := ∃ arr, W.heap[n]? = some (.cells arr 26) ∧ StV W (.agg arr) s
theorem CnQ.rd {W0 : World} {s : St} {e : Ending} {w1 : World} (h : CnQ W0 s e w1) : ∃ v, e = .returned v ∧ Below W0.heap.size W0 w1 ∧ ∀ (S : Nat → Prop) (W : World), Fr S w1 W → (∀ k, S k → k < W0.heap.size ∨ w1.heap.size ≤ k) → StV W v s := by
  obtain ⟨tv, ov, bv, xo, xb, C1, C, he, h1, h2, h3, h4, h5, h6, h7, h8⟩ := h
  refine ⟨_, he, h8, fun S W hF hS => ?_⟩
  refine ⟨tv, ov, bv, rfl, Rx.of_ro (h1.fr hF (fun k hk e => ?_)), (h4.fr staysO hF (fun k hk hi e => ?_)).osv, (h3.fr staysB hF (fun k hk hi e => ?_)).bsv⟩
  · have a1 := h2 k hk
    have a2 := h1.lt k hk
    rcases hS k e with q | q <;> omega
  · have a1 := (h4.in hi).1
    rcases hS k e with q | q <;> omega
  · have a1 := (h3.in hi).1
    rcases hS k e with q | q <;> omega
theorem fr_sets (w : World) (b o : Nat) (vs : List Value) : Fr (fun k => k = b) w (w.setCells b o vs) :=
  ⟨(setCells_rest b vs o w).1, (setCells_rest b vs o w).2.1, (setCells_rest b vs o w).2.2, by rw [setCells_size]; exact Nat.le_refl _, fun k hk hn => setCells_other b k hn vs o w⟩
theorem set7 {w : World} {b : Nat} {z0 z1 z2 z3 z4 z5 z6 : Value} {t : TypeId} (h : w.heap[b]? = some (.cells #[z0, z1, z2, z3, z4, z5, z6] t)) (v0 v1 v2 v3 v4 v5 v6 : Value) :
    (w.setCells b 0 [v0, v1, v2, v3, v4, v5, v6]).heap[b]? = some (.cells #[v0, v1, v2, v3, v4, v5, v6] t) := by
  have e := setCells_block b [v0, v1, v2, v3, v4, v5, v6] 0 w _ h (by simp)
  obtain ⟨cur', h1, h2, h3⟩ := e
  rw [h1]
  have : cur' = #[v0, v1, v2, v3, v4, v5, v6] := by
    apply Array.ext_getElem?
    intro i
    rw [h3 i]
    by_cases q : i < 7
    · have : i = 0 ∨ i = 1 ∨ i = 2 ∨ i = 3 ∨ i = 4 ∨ i = 5 ∨ i = 6 := by omega
      rcases this with rfl | rfl | rfl | rfl | rfl | rfl | rfl <;> rfl
    · rw [if_neg (by simp; omega), Array.getElem?_eq_none (by simp; omega), Array.getElem?_eq_none (by simp; omega)]
  rw [this]
set_option maxRecDepth 100000 in
set_option maxHeartbeats 6400000 in
theorem dSame_any {w : World} {u v : Value} {a b : St} (hu : StV w u a) (hv : StV w v b) (ha : StB a) (hbB : StB b) :
    Calls Try.prog 14 #[u, v] w fun e w' => e = .returned (.bool (Dc (canD a = canD b))) ∧ Below w.heap.size w w' := by
  obtain ⟨ata, atc, aoa, aoc, aba, abc, rfl, -, -, -, -, -, -, -, -, -⟩ := hu.shape
  obtain ⟨bta, btc, boa, boc, bba, bbc, rfl, -, -, -, -, -, -, -, -, -⟩ := hv.shape
  have HU := hide (fun (W : World) (hb : Below w.heap.size w W) => hu.below hb (Nat.le_refl _))
  have HV := hide (fun (W : World) (hb : Below w.heap.size w W) => hv.below hb (Nat.le_refl _))
  have HSA := hide (canD_B ha)
  obtain ⟨aT, haT⟩ : ∃ n, Hid (a.texts.length = n) := ⟨_, hide rfl⟩
  obtain ⟨aO, haO⟩ : ∃ n, Hid (a.objs.length = n) := ⟨_, hide rfl⟩
  obtain ⟨aB, haB⟩ : ∃ n, Hid (a.fibs.length = n) := ⟨_, hide rfl⟩
  obtain ⟨bT, hbT⟩ : ∃ n, Hid (b.texts.length = n) := ⟨_, hide rfl⟩
  obtain ⟨bO, hbO⟩ : ∃ n, Hid (b.objs.length = n) := ⟨_, hide rfl⟩
  obtain ⟨bB, hbb⟩ : ∃ n, Hid (b.fibs.length = n) := ⟨_, hide rfl⟩
  obtain ⟨a1, ha1⟩ : ∃ n, Hid (a.cur = n) := ⟨_, hide rfl⟩
  obtain ⟨a2, ha2⟩ : ∃ n, Hid (a.steps = n) := ⟨_, hide rfl⟩
  obtain ⟨a3, ha3⟩ : ∃ n, Hid (a.spent = n) := ⟨_, hide rfl⟩
  obtain ⟨a4, ha4⟩ : ∃ n, Hid (a.read = n) := ⟨_, hide rfl⟩
  obtain ⟨b1, hb1⟩ : ∃ n, Hid (b.cur = n) := ⟨_, hide rfl⟩
  obtain ⟨b2, hb2⟩ : ∃ n, Hid (b.steps = n) := ⟨_, hide rfl⟩
  obtain ⟨b3, hb3⟩ : ∃ n, Hid (b.spent = n) := ⟨_, hide rfl⟩
  obtain ⟨b4, hb4⟩ : ∃ n, Hid (b.read = n) := ⟨_, hide rfl⟩
  rw [unhide haT, unhide haO, unhide haB, unhide ha1, unhide ha2, unhide ha3, unhide ha4] at HU ⊢
  rw [unhide hbT, unhide hbO, unhide hbb, unhide hb1, unhide hb2, unhide hb3, unhide hb4] at HV ⊢
  have HCA : Hid (∀ W, Below w.heap.size w W → Calls Try.prog 7 #[.agg #[.slice ata aT atc, .slice aoa aO aoc, .slice aba aB abc, .int .i64 a1, .int .i64 a2, .int .i64 a3, .int .i64 a4]] W (CnP W (canD a))) := fun W hb => dCanon_any (unhide HU W hb) ha
  have HCB : Hid (∀ W, Below w.heap.size w W → Calls Try.prog 7 #[.agg #[.slice bta bT btc, .slice boa bO boc, .slice bba bB bbc, .int .i64 b1, .int .i64 b2, .int .i64 b3, .int .i64 b4]] W (CnP W (canD b))) := fun W hb => dCanon_any (unhide HV W hb) hbB
  obtain ⟨D, hD⟩ : ∃ W, Hid (((w.alloc (.cells #[.slice ata aT atc, .slice aoa aO aoc, .slice aba aB abc, .int .i64 a1, .int .i64 a2, .int .i64 a3, .int .i64 a4] 26)).alloc (.cells #[.slice bta bT btc, .slice boa bO boc, .slice bba bB bbc, .int .i64 b1, .int .i64 b2, .int .i64 b3, .int .i64 b4] 26)).drew = W) := ⟨_, hide rfl⟩
  have fD : Below w.heap.size w D := by rw [← unhide hD]; exact bl_past (bl_two w _ _) (bl_drew _)
  obtain ⟨p1, p2⟩ := blk2 w (.cells #[.slice ata aT atc, .slice aoa aO aoc, .slice aba aB abc, .int .i64 a1, .int .i64 a2, .int .i64 a3, .int .i64 a4] 26) (.cells #[.slice bta bT btc, .slice boa bO boc, .slice bba bB bbc, .int .i64 b1, .int .i64 b2, .int .i64 b3, .int .i64 b4] 26)
  have n0 : D.heap[w.heap.size]? = some (.cells #[.slice ata aT atc, .slice aoa aO aoc, .slice aba aB abc, .int .i64 a1, .int .i64 a2, .int .i64 a3, .int .i64 a4] 26) := by rw [← unhide hD]; exact p1
  have n1 : D.heap[w.heap.size + 1]? = some (.cells #[.slice bta bT btc, .slice boa bO boc, .slice bba bB bbc, .int .i64 b1, .int .i64 b2, .int .i64 b3, .int .i64 b4] 26) := by rw [← unhide hD]; exact p2
  have HN0 := hide n0
  have HN1 := hide n1
  have HFD := hide fD
  obtain ⟨c0, -, l0⟩ := blk_cells n0
  obtain ⟨c1, -, l1⟩ := blk_cells n1
  have x0 := c0 0
  have y0 := c1 0
  have x1 := c0 1
  have y1 := c1 1
  have x2 := c0 2
  have y2 := c1 2
  have x3 := c0 3
  have y3 := c1 3
  have x4 := c0 4
  have y4 := c1 4
  have x5 := c0 5
  have y5 := c1 5
  have x6 := c0 6
  have y6 := c1 6
  simp at x0 x1 x2 x3 x4 x5 x6 y0 y1 y2 y3 y4 y5 y6
  clear hu hv p1 p2 n0 n1 fD c0 c1
  obtain ⟨d, hd⟩ : ∃ d, Hid (Dc (canD a = canD b) = d) := ⟨_, hide rfl⟩
  rw [unhide hd]
  go_enter Try.func14, Try.ntmps14
  go_wp2_with fail
  refine wp_region_held_drew (S := fun _ => True) (by kernel_rfl) trivial (fun _ => ?_)
  rw [unhide hD]
  refine wpAnyH_ready (rs := [0, 2]) (by kernel_rfl) (by simp) ?_
  refine AllReadyH.cons (o := _) rfl (fun K hK => ?_) (AllReadyH.cons (o := _) rfl (fun K hK => ?_) AllReadyH.nil)
  · go_simp
    refine hK.out _ _ trivial (fun _ => ?_)
    clear hK K
    go_simp
    refine wpAnyH_ready (rs := [1, 2]) (by kernel_rfl) (by simp) ?_
    refine AllReadyH.cons (o := _) rfl (fun K hK => ?_) (AllReadyH.cons (o := _) rfl (fun K hK => ?_) AllReadyH.nil)
    · go_simp
      refine (unhide HCA _ (unhide HFD)).mono ?_
      rintro e w1 hq1
      obtain ⟨va, rfl, C1⟩ := hq1
      have hbw1 : Below D.heap.size D w1 := C1.2
      have HC1 := hide C1
      skip
      (try clear hq1)
      clear C1
      refine hK.out _ _ trivial (fun _ => ?_)
      clear hK K
      go_simp
      obtain ⟨c1, -, lyw⟩ := blk_cells (bkeep1 (unhide HN1) hbw1)
      have y0w := c1 0
      have y1w := c1 1
      have y2w := c1 2
      have y3w := c1 3
      have y4w := c1 4
      have y5w := c1 5
      have y6w := c1 6
      simp at y0w y1w y2w y3w y4w y5w y6w
      clear c1
      refine wpAnyH_ready (rs := [2]) (by kernel_rfl) (by simp) ?_
      refine AllReadyH.cons (o := _) rfl (fun K hK => ?_) AllReadyH.nil
      go_simp
      refine hK.out _ _ trivial (fun _ => ?_)
      clear hK K
      go_simp
      clear y0w y1w y2w y3w y4w y5w y6w
      refine wpAnyH_ready (rs := [3]) (by kernel_rfl) (by simp) ?_
      refine AllReadyH.cons (o := _) rfl (fun K hK => ?_) AllReadyH.nil
      go_simp
      refine (unhide HCB _ ((unhide HFD).trans (hbw1.mono (unhide HFD).size))).mono ?_
      rintro e w2 hq2
      obtain ⟨vb, rfl, C2⟩ := hq2
      have hbw2 : Below w1.heap.size w1 w2 := C2.2
      have HC2 := hide C2
      skip
      (try clear hq2)
      clear C2
      refine hK.out _ _ trivial (fun _ => ?_)
      clear hK K
      go_simp
      refine wpAnyH_ready (rs := [4]) (by kernel_rfl) (by simp) ?_
      refine AllReadyH.cons (o := _) rfl (fun K hK => ?_) AllReadyH.nil
      have HSM := hide (smS_any ((unhide HC1).1.below hbw2 (Nat.le_refl _)) (unhide HC2).1 (unhide HSA))
      rw [unhide hd] at HSM
      go_simp
      refine (unhide HSM).mono ?_
      rintro e w3 ⟨rfl, hb3w⟩
      have HB3 := hide (((unhide HFD).trans (hbw1.mono (unhide HFD).size)).trans (((bl_past hbw2 hb3w)).mono (Nat.le_trans (unhide HFD).size hbw1.size)))
      refine hK.out _ _ trivial (fun _ => ?_)
      clear hK K hb3w
      go_simp
      refine wpAnyH_ready (rs := [5]) (by kernel_rfl) (by simp) ?_
      refine AllReadyH.cons (o := _) rfl (fun K hK => ?_) AllReadyH.nil
      go_simp
      refine hK.out _ _ trivial (fun _ => ?_)
      clear hK K
      refine wpAnyH_done (by kernel_rfl) ?_ _
      go_wp2_with fail
      go_ret
      exact ⟨rfl, unhide HB3⟩
    · go_simp
      refine hK.out _ _ trivial (fun _ => ?_)
      clear hK K
      go_simp
      refine wpAnyH_ready (rs := [1]) (by kernel_rfl) (by simp) ?_
      refine AllReadyH.cons (o := _) rfl (fun K hK => ?_) AllReadyH.nil
      go_simp
      refine (unhide HCA _ (unhide HFD)).mono ?_
      rintro e w1 hq1
      obtain ⟨va, rfl, C1⟩ := hq1
      have hbw1 : Below D.heap.size D w1 := C1.2
      have HC1 := hide C1
      skip
      (try clear hq1)
      clear C1
      refine hK.out _ _ trivial (fun _ => ?_)
      clear hK K
      go_simp
      refine wpAnyH_ready (rs := [3]) (by kernel_rfl) (by simp) ?_
      refine AllReadyH.cons (o := _) rfl (fun K hK => ?_) AllReadyH.nil
      go_simp
      refine (unhide HCB _ ((unhide HFD).trans (hbw1.mono (unhide HFD).size))).mono ?_
      rintro e w2 hq2
      obtain ⟨vb, rfl, C2⟩ := hq2
      have hbw2 : Below w1.heap.size w1 w2 := C2.2
      have HC2 := hide C2
      skip
      (try clear hq2)
      clear C2
      refine hK.out _ _ trivial (fun _ => ?_)
      clear hK K
      go_simp
      refine wpAnyH_ready (rs := [4]) (by kernel_rfl) (by simp) ?_
      refine AllReadyH.cons (o := _) rfl (fun K hK => ?_) AllReadyH.nil
      have HSM := hide (smS_any ((unhide HC1).1.below hbw2 (Nat.le_refl _)) (unhide HC2).1 (unhide HSA))
      rw [unhide hd] at HSM
      go_simp
      refine (unhide HSM).mono ?_
      rintro e w3 ⟨rfl, hb3w⟩
      have HB3 := hide (((unhide HFD).trans (hbw1.mono (unhide HFD).size)).trans (((bl_past hbw2 hb3w)).mono (Nat.le_trans (unhide HFD).size hbw1.size)))
      refine hK.out _ _ trivial (fun _ => ?_)
      clear hK K hb3w
      go_simp
      refine wpAnyH_ready (rs := [5]) (by kernel_rfl) (by simp) ?_
      refine AllReadyH.cons (o := _) rfl (fun K hK => ?_) AllReadyH.nil
      go_simp
      refine hK.out _ _ trivial (fun _ => ?_)
      clear hK K
      refine wpAnyH_done (by kernel_rfl) ?_ _
      go_wp2_with fail
      go_ret
      exact ⟨rfl, unhide HB3⟩
  · go_simp
    refine hK.out _ _ trivial (fun _ => ?_)
    clear hK K
    go_simp
    refine wpAnyH_ready (rs := [0]) (by kernel_rfl) (by simp) ?_
    refine AllReadyH.cons (o := _) rfl (fun K hK => ?_) AllReadyH.nil
    go_simp
    refine hK.out _ _ trivial (fun _ => ?_)
    clear hK K
    go_simp
    refine wpAnyH_ready (rs := [1]) (by kernel_rfl) (by simp) ?_
    refine AllReadyH.cons (o := _) rfl (fun K hK => ?_) AllReadyH.nil
    go_simp
    refine (unhide HCA _ (unhide HFD)).mono ?_
    rintro e w1 hq1
    obtain ⟨va, rfl, C1⟩ := hq1
    have hbw1 : Below D.heap.size D w1 := C1.2
    have HC1 := hide C1
    skip
    (try clear hq1)
    clear C1
    refine hK.out _ _ trivial (fun _ => ?_)
    clear hK K
    go_simp
    refine wpAnyH_ready (rs := [3]) (by kernel_rfl) (by simp) ?_
    refine AllReadyH.cons (o := _) rfl (fun K hK => ?_) AllReadyH.nil
    go_simp
    refine (unhide HCB _ ((unhide HFD).trans (hbw1.mono (unhide HFD).size))).mono ?_
    rintro e w2 hq2
    obtain ⟨vb, rfl, C2⟩ := hq2
    have hbw2 : Below w1.heap.size w1 w2 := C2.2
    have HC2 := hide C2
    skip
    (try clear hq2)
    clear C2
    refine hK.out _ _ trivial (fun _ => ?_)
    clear hK K
    go_simp
    refine wpAnyH_ready (rs := [4]) (by kernel_rfl) (by simp) ?_
    refine AllReadyH.cons (o := _) rfl (fun K hK => ?_) AllReadyH.nil
    have HSM := hide (smS_any ((unhide HC1).1.below hbw2 (Nat.le_refl _)) (unhide HC2).1 (unhide HSA))
    rw [unhide hd] at HSM
    go_simp
    refine (unhide HSM).mono ?_
    rintro e w3 ⟨rfl, hb3w⟩
    have HB3 := hide (((unhide HFD).trans (hbw1.mono (unhide HFD).size)).trans (((bl_past hbw2 hb3w)).mono (Nat.le_trans (unhide HFD).size hbw1.size)))
    refine hK.out _ _ trivial (fun _ => ?_)
    clear hK K hb3w
    go_simp
    refine wpAnyH_ready (rs := [5]) (by kernel_rfl) (by simp) ?_
    refine AllReadyH.cons (o := _) rfl (fun K hK => ?_) AllReadyH.nil
    go_simp
    refine hK.out _ _ trivial (fun _ => ?_)
    clear hK K
    refine wpAnyH_done (by kernel_rfl) ?_ _
    go_wp2_with fail
    go_ret
    exact ⟨rfl, unhide HB3⟩
end Go.Proofs.Ytadgiccfjppnfaa
