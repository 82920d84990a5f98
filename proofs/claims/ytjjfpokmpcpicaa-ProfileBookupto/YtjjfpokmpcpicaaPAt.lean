/-
  A profile's spot: the program's answer and the document's.
-/
import Derived.Test.YtjjfpokmpcpicaaPSz
namespace Go.Proofs.Ytjjfpokmpcpicaa
open Go.RowKit
set_option linter.unusedVariables false
set_option linter.unusedSimpArgs false
theorem spZ_v : spV spZ = .agg #[.int .i64 0, .int .u16 0, .int .u16 0, .int .i64 0] := rfl
theorem two_blk (w : World) (a : Value) (t1 : TypeId) (cs : Array Value) (t2 : TypeId) : ((w.alloc (.cells #[a] t1)).alloc (.cells cs t2)).heap[w.heap.size]? = some (.cells #[a] t1) ∧ ((w.alloc (.cells #[a] t1)).alloc (.cells cs t2)).heap[w.heap.size + 1]? = some (.cells cs t2) := by
  refine ⟨by rw [Below.heap_alloc _ _ _ (by simp only [World.size_alloc]; omega)]; exact heap_alloc_new w _, ?_⟩
  have := heap_alloc_new (w.alloc (.cells #[a] t1)) (.cells cs t2)
  simpa only [World.size_alloc] using this
set_option maxRecDepth 100000 in
set_option maxHeartbeats 1600000 in
theorem at_any {w : World} {av : Value} {f : List (List Sp)} (ha : PfV w av f) (fn pc : Int) :
    Calls Try.prog 22 #[.agg #[av], .int .i64 fn, .int .i64 pc] w fun e w' => e = .returned (spV (atP f fn pc)) ∧ Below w.heap.size w w' := by
  obtain ⟨a, acap, rfl, ha1, ha2⟩ := ha.shape
  have HA := hide (fun i l (hl : f[i]? = some l) => ha.row hl)
  have HB2 := hide (bl_two w)
  have HSZ := hide (fun W (hW : Below w.heap.size w W) => size_any (ha.below hW (Nat.le_refl _)) fn)
  have HBK := hide (two_blk w (.slice a f.length acap) 28 #[.int .i64 0, .int .u16 0, .int .u16 0, .int .i64 0] 56)
  unfold maxLen at ha2
  clear ha
  obtain ⟨L, hL⟩ : ∃ L, Hid (f.length = L) := ⟨_, hide rfl⟩
  by_cases h0 : pc < 0
  · rw [atP_no (.inl h0), spZ_v]
    rw [unhide hL] at ha1 ⊢
    have d0 : decide (pc < 0) = true := decide_eq_true h0
    go_enter Try.func22, Try.ntmps22
    go_wp2_with fail
    refine bodyPost_ret (v := .agg #[.int .i64 0, .int .u16 0, .int .u16 0, .int .i64 0]) ?_ rfl ?_
    · rw [results_cell_one rfl]
      go_simp
    · refine ⟨rfl, ?_⟩
      first | exact unhide HB2 _ _ | skip
  · by_cases h1 : (szP f fn : Int) ≤ pc
    · rw [atP_no (.inr h1), spZ_v]
      obtain ⟨Z, hZ⟩ : ∃ Z, Hid (szP f fn = Z) := ⟨_, hide rfl⟩
      rw [unhide hZ] at h1 HSZ
      rw [unhide hL] at ha1 HSZ HBK ⊢
      have d0 : decide (pc < 0) = false := decide_eq_false h0
      have d1 : decide ((Z : Int) ≤ pc) = true := decide_eq_true h1
      go_enter Try.func22, Try.ntmps22
      go_wp2_with fail
      refine (unhide HSZ _ (unhide HB2 _ _)).mono ?_
      rintro e w1 ⟨rfl, b1⟩
      have HB1 := hide (bl_past (unhide HB2 _ _) b1)
      have hk1 := (b1.block _ (Array.getElem?_eq_some_iff.1 (unhide HBK).2).1).trans (unhide HBK).2
      obtain ⟨c1, f1, z1⟩ := blk_cells hk1
      have q0 := c1 0
      have q1 := c1 1
      have q2 := c1 2
      have q3 := c1 3
      have g0 := f1 0
      have g1 := f1 1
      have g2 := f1 2
      have g3 := f1 3
      simp at q0 q1 q2 q3
      clear c1 f1 hk1 b1 HBK HB2 HSZ
      go_wp2_with fail
      refine bodyPost_ret (v := .agg #[.int .i64 0, .int .u16 0, .int .u16 0, .int .i64 0]) ?_ rfl ?_
      · rw [results_cell_one rfl]
        go_simp
      · refine ⟨rfl, ?_⟩
        repeat (first | refine Below.setCell ?_ (by first | (simp; done) | (simp; omega)) _ | (with_reducible exact unhide HB1))
    · obtain ⟨n, hn⟩ : ∃ n : Nat, fn = (n : Int) := by
        have : 0 ≤ fn := by
          by_cases q : fn < 0
          · rw [szP_no (.inl q)] at h1; omega
          · omega
        exact ⟨fn.toNat, by omega⟩
      subst hn
      obtain ⟨k, hk⟩ : ∃ k : Nat, pc = (k : Int) := ⟨pc.toNat, by omega⟩
      subst hk
      have hnl : n < f.length := by
        by_cases q : n < f.length
        · exact q
        · rw [szP_no (.inr (by omega))] at h1; omega
      obtain ⟨p, hp⟩ : ∃ p, f[n]? = some p := ⟨_, List.getElem?_eq_getElem hnl⟩
      rw [szP_at hp] at h1 HSZ
      have hkl : k < p.length := by omega
      obtain ⟨x, hx⟩ : ∃ x, p[k]? = some x := ⟨_, List.getElem?_eq_getElem hkl⟩
      obtain ⟨ab, ao, pa, pcc, ea, ha4, ca, hr, ha5, ha6⟩ := unhide HA n p hp
      subst ea
      obtain ⟨xb, xo, ex, hx4, c0, c1, c2, c3⟩ := hr.spot hx
      subst ex
      rw [atP_at hp hx]
      unfold spV
      obtain ⟨P, hP⟩ : ∃ P, Hid (p.length = P) := ⟨_, hide rfl⟩
      rw [unhide hP] at ca ha5 h1 HSZ hkl
      rw [unhide hL] at ha1 HSZ HBK hnl ⊢
      unfold maxLen at ha6
      have hab : ab < w.heap.size := ha4
      have hxb : xb < w.heap.size := hx4
      have i0 : (0 : Int) ≤ (n : Int) := by omega
      have i1 : (n : Int) < (L : Int) := by omega
      have i2 : (0 : Int) ≤ (k : Int) := by omega
      have i3 : (k : Int) < (P : Int) := by omega
      have d0 : decide ((k : Int) < 0) = false := decide_eq_false h0
      have d1 : decide ((P : Int) ≤ (k : Int)) = false := decide_eq_false h1
      have HCA := hide (And.intro ca (And.intro c0 (And.intro c1 (And.intro c2 c3))))
      clear ca c0 c1 c2 c3 hr hp hx HA h0 h1
      go_enter Try.func22, Try.ntmps22
      go_wp2_with fail
      refine (unhide HSZ _ (unhide HB2 _ _)).mono ?_
      rintro e w1 ⟨rfl, b1⟩
      have HB1 := hide (bl_past (unhide HB2 _ _) b1)
      have hk0 := (b1.block _ (Array.getElem?_eq_some_iff.1 (unhide HBK).1).1).trans (unhide HBK).1
      have hk1 := (b1.block _ (Array.getElem?_eq_some_iff.1 (unhide HBK).2).1).trans (unhide HBK).2
      obtain ⟨e1, _, z0⟩ := blk_cells hk0
      have p0 := e1 0
      obtain ⟨c1, f1, z1⟩ := blk_cells hk1
      have q0 := c1 0
      have q1 := c1 1
      have q2 := c1 2
      have q3 := c1 3
      have g0 := f1 0
      have g1 := f1 1
      have g2 := f1 2
      have g3 := f1 3
      simp at p0 q0 q1 q2 q3
      have bl := unhide HB1
      have r0 : w1.cell? ⟨ab, ao + n, none⟩ = _ := (bl.cell (p := ⟨ab, ao + n, none⟩) hab).trans (unhide HCA).1
      have r1 : w1.cell? ⟨xb, xo + k * 4, none⟩ = _ := (bl.cell (p := ⟨xb, xo + k * 4, none⟩) hxb).trans (unhide HCA).2.1
      have r2 : w1.cell? ⟨xb, xo + k * 4 + 1, none⟩ = _ := (bl.cell (p := ⟨xb, xo + k * 4 + 1, none⟩) hxb).trans (unhide HCA).2.2.1
      have r3 : w1.cell? ⟨xb, xo + k * 4 + 2, none⟩ = _ := (bl.cell (p := ⟨xb, xo + k * 4 + 2, none⟩) hxb).trans (unhide HCA).2.2.2.1
      have r4 : w1.cell? ⟨xb, xo + k * 4 + 3, none⟩ = _ := (bl.cell (p := ⟨xb, xo + k * 4 + 3, none⟩) hxb).trans (unhide HCA).2.2.2.2
      have u0 := Nat.lt_of_lt_of_le hab bl.size
      have u1 := Nat.lt_of_lt_of_le hxb bl.size
      clear e1 c1 f1 hk0 hk1 bl HBK HB2 HCA
      clear b1 HSZ
      go_wp2_with fail
      refine bodyPost_ret (v := .agg #[.int .i64 x.c, .int .u16 x.a, .int .u16 x.b, .int .i64 x.k]) ?_ rfl ?_
      · rw [results_cell_one rfl]
        go_simp
      · refine ⟨rfl, ?_⟩
        repeat (first | refine Below.setCell ?_ (by first | (simp; done) | (simp; omega)) _ | (with_reducible exact unhide HB1))
set_option maxRecDepth 100000 in
set_option maxHeartbeats 1600000 in
theorem refAt_any {w : World} {av : Value} {f : List (List Sp)} (ha : PfV w av f) (fn pc : Int) :
    Calls Try.prog 23 #[.agg #[av], .int .i64 fn, .int .i64 pc] w fun e w' => e = .returned (spV (atP f fn pc)) ∧ Below w.heap.size w w' := by
  obtain ⟨a, acap, rfl, ha1, ha2⟩ := ha.shape
  have HA := hide (fun i l (hl : f[i]? = some l) => ha.row hl)
  have HB2 := hide (bl_two w)
  unfold maxLen at ha2
  clear ha
  obtain ⟨L, hL⟩ : ∃ L, Hid (f.length = L) := ⟨_, hide rfl⟩
  by_cases h0 : fn < 0
  · rw [show atP f fn pc = spZ by unfold atP; rw [if_pos (.inl h0)], spZ_v]
    rw [unhide hL] at ha1 ⊢
    have d0 : decide (fn < 0) = true := decide_eq_true h0
    go_enter Try.func23, Try.ntmps23
    go_wp2_with fail
    refine bodyPost_ret (v := .agg #[.int .i64 0, .int .u16 0, .int .u16 0, .int .i64 0]) ?_ rfl ?_
    · rw [results_cell_one rfl]
      go_simp
    · exact ⟨rfl, unhide HB2 _ _⟩
  · by_cases h1 : (f.length : Int) ≤ fn
    · rw [atP_no (by by_cases q : pc < 0; exact .inl q; exact .inr (by rw [szP_no (.inr h1)]; omega)), spZ_v]
      rw [unhide hL] at ha1 h1 ⊢
      have d0 : decide (fn < 0) = false := decide_eq_false h0
      have d1 : decide ((L : Int) ≤ fn) = true := decide_eq_true h1
      go_enter Try.func23, Try.ntmps23
      go_wp2_with fail
      refine bodyPost_ret (v := .agg #[.int .i64 0, .int .u16 0, .int .u16 0, .int .i64 0]) ?_ rfl ?_
      · rw [results_cell_one rfl]
        go_simp
      · exact ⟨rfl, unhide HB2 _ _⟩
    · obtain ⟨n, hn⟩ : ∃ n : Nat, fn = (n : Int) := ⟨fn.toNat, by omega⟩
      subst hn
      have hnl : n < f.length := by omega
      by_cases h2 : pc < 0
      · rw [atP_no (.inl h2), spZ_v]
        rw [unhide hL] at ha1 h1 hnl ⊢
        have i0 : (0 : Int) ≤ (n : Int) := by omega
        have i1 : (n : Int) < (L : Int) := by omega
        have d0 : decide ((n : Int) < 0) = false := decide_eq_false h0
        have d1 : decide ((L : Int) ≤ (n : Int)) = false := decide_eq_false h1
        have d2 : decide (pc < 0) = true := decide_eq_true h2
        clear h1
        go_enter Try.func23, Try.ntmps23
        go_wp2_with fail
        refine bodyPost_ret (v := .agg #[.int .i64 0, .int .u16 0, .int .u16 0, .int .i64 0]) ?_ rfl ?_
        · rw [results_cell_one rfl]
          go_simp
        · exact ⟨rfl, unhide HB2 _ _⟩
      · obtain ⟨k, hk⟩ : ∃ k : Nat, pc = (k : Int) := ⟨pc.toNat, by omega⟩
        subst hk
        obtain ⟨p, hp⟩ : ∃ p, f[n]? = some p := ⟨_, List.getElem?_eq_getElem hnl⟩
        obtain ⟨ab, ao, pa, pcc, ea, ha4, ca, hr, ha5, ha6⟩ := unhide HA n p hp
        subst ea
        unfold maxLen at ha6
        have hab : ab < w.heap.size := ha4
        have hab1 : ab < w.heap.size + 1 := by omega
        have hab2 : ab < w.heap.size + 1 + 1 := by omega
        have i0 : (0 : Int) ≤ (n : Int) := by omega
        have i1 : (n : Int) < (f.length : Int) := by omega
        have i2 : (0 : Int) ≤ (k : Int) := by omega
        have d0 : decide ((n : Int) < 0) = false := decide_eq_false h0
        have d1 : decide ((f.length : Int) ≤ (n : Int)) = false := decide_eq_false h1
        have d2 : decide ((k : Int) < 0) = false := decide_eq_false h2
        by_cases h3 : p.length ≤ k
        · rw [atP_no (.inr (by rw [szP_at hp]; omega)), spZ_v]
          have d3 : decide ((p.length : Int) ≤ (k : Int)) = true := decide_eq_true (by omega)
          have d3' : ¬ k < p.length := by omega
          obtain ⟨P, hP⟩ : ∃ P, Hid (p.length = P) := ⟨_, hide rfl⟩
          rw [unhide hP] at ca ha5 d3 d3' h3
          rw [unhide hL] at ha1 h1 hnl i1 d1 ⊢
          clear hp HA hr h0 h1 h2 d3'
          go_enter Try.func23, Try.ntmps23
          go_wp2_with fail
          refine bodyPost_ret (v := .agg #[.int .i64 0, .int .u16 0, .int .u16 0, .int .i64 0]) ?_ rfl ?_
          · rw [results_cell_one rfl]
            go_simp
          · exact ⟨rfl, unhide HB2 _ _⟩
        · have hkl : k < p.length := by omega
          obtain ⟨x, hx⟩ : ∃ x, p[k]? = some x := ⟨_, List.getElem?_eq_getElem hkl⟩
          obtain ⟨xb, xo, ex, hx4, c0, c1, c2, c3⟩ := hr.spot hx
          subst ex
          rw [atP_at hp hx]
          unfold spV
          have d3 : decide ((p.length : Int) ≤ (k : Int)) = false := decide_eq_false (by omega)
          have i3 : (k : Int) < (p.length : Int) := by omega
          obtain ⟨P, hP⟩ : ∃ P, Hid (p.length = P) := ⟨_, hide rfl⟩
          rw [unhide hP] at ca ha5 d3 i3 h3 hkl
          rw [unhide hL] at ha1 h1 hnl i1 d1 ⊢
          have hxb : xb < w.heap.size := hx4
          have hxb1 : xb < w.heap.size + 1 := by omega
          have hxb2 : xb < w.heap.size + 1 + 1 := by omega
          clear hp hx HA hr h0 h1 h2 h3
          go_enter Try.func23, Try.ntmps23
          go_wp2_with fail
          refine bodyPost_ret (v := .agg #[.int .i64 x.c, .int .u16 x.a, .int .u16 x.b, .int .i64 x.k]) ?_ rfl ?_
          · rw [results_cell_one rfl]
            go_simp
          · exact ⟨rfl, unhide HB2 _ _⟩
end Go.Proofs.Ytjjfpokmpcpicaa
