/-
  Hot's comparison.
-/
import Derived.Test.YtclcebdcdbcpjaaGreatPAt
import Derived.Test.YtclcebdcdbcpjaaGreatSoF
namespace Go.Proofs.YtclcebdcdbcpjaaGreat
open Go.RowKit
set_option linter.unusedVariables false
set_option linter.unusedSimpArgs false
set_option maxRecDepth 100000 in
set_option maxHeartbeats 1600000 in
theorem sizeD_any {w : World} {av : Value} {f : List (List Sp)} (ha : PfV w av f) (fn : Int) :
    Calls Tryz.prog 31 #[.agg #[av], .int .i64 fn] w fun e w' => e = .returned (.int .i64 (szP f fn : Int)) ∧ Below w.heap.size w w' ∧ w'.drawn = w.drawn := by
  obtain ⟨a, acap, rfl, ha1, ha2⟩ := ha.shape
  have HA := hide (fun i l (hl : f[i]? = some l) => ha.row hl)
  have HB := hide (box1 w (.slice a f.length acap) 25)
  unfold maxLen at ha2
  clear ha
  obtain ⟨L, hL⟩ : ∃ L, Hid (f.length = L) := ⟨_, hide rfl⟩
  by_cases h0 : fn < 0
  · rw [szP_no (.inl h0)]
    rw [unhide hL] at ha1 HB ⊢
    have d0 : decide (fn < 0) = true := by simpa using h0
    go_enter Tryz.func31, Tryz.ntmps31
    go_wp2_with fail
    go_ret
    exact ⟨rfl, unhide HB, rfl⟩
  · by_cases h1 : (f.length : Int) ≤ fn
    · rw [szP_no (.inr h1)]
      rw [unhide hL] at ha1 h1 HB ⊢
      have d0 : decide (fn < 0) = false := by simpa using h0
      have d1 : decide ((L : Int) ≤ fn) = true := by simpa using h1
      go_enter Tryz.func31, Tryz.ntmps31
      go_wp2_with fail
      go_ret
      exact ⟨rfl, unhide HB, rfl⟩
    · obtain ⟨n, rfl⟩ : ∃ n : Nat, fn = (n : Int) := ⟨fn.toNat, by omega⟩
      have hn : n < f.length := by omega
      obtain ⟨p, hp⟩ : ∃ p, f[n]? = some p := ⟨_, List.getElem?_eq_getElem hn⟩
      obtain ⟨ab, ao, pa, pc, ea, ha4, ca, _, ha5, ha6⟩ := unhide HA n p hp
      subst ea
      rw [szP_at hp]
      obtain ⟨P, hP⟩ : ∃ P, Hid (p.length = P) := ⟨_, hide rfl⟩
      rw [unhide hP] at ca ha5 ⊢
      rw [unhide hL] at ha1 h1 hn HB ⊢
      have i0 : (0 : Int) ≤ (n : Int) := by omega
      have i1 : (n : Int) < (L : Int) := by omega
      have hb1 : ab < w.heap.size + 1 := by have h4 : ab < w.heap.size := ha4; omega
      have hab : ab < w.heap.size := ha4
      have d0 : decide ((n : Int) < 0) = false := decide_eq_false h0
      have d1 : decide ((L : Int) ≤ (n : Int)) = false := by simpa using h1
      clear hp h0 h1 HA
      go_enter Tryz.func31, Tryz.ntmps31
      go_wp2_with fail
      go_ret
      exact ⟨rfl, unhide HB, rfl⟩
set_option maxRecDepth 100000 in
set_option maxHeartbeats 1600000 in
theorem atD_any {w : World} {av : Value} {f : List (List Sp)} (ha : PfV w av f) (fn pc : Int) :
    Calls Tryz.prog 22 #[.agg #[av], .int .i64 fn, .int .i64 pc] w fun e w' => e = .returned (spV (atP f fn pc)) ∧ Below w.heap.size w w' ∧ w'.drawn = w.drawn := by
  obtain ⟨a, acap, rfl, ha1, ha2⟩ := ha.shape
  have HA := hide (fun i l (hl : f[i]? = some l) => ha.row hl)
  have HB2 := hide (bl_two w)
  have HSZ := hide (fun W (hW : Below w.heap.size w W) => sizeD_any (ha.below hW (Nat.le_refl _)) fn)
  have HBK := hide (two_blk w (.slice a f.length acap) 25 #[.int .i64 0, .int .u16 0, .int .u16 0, .int .i64 0] 62)
  unfold maxLen at ha2
  clear ha
  obtain ⟨L, hL⟩ : ∃ L, Hid (f.length = L) := ⟨_, hide rfl⟩
  by_cases h0 : pc < 0
  · rw [atP_no (.inl h0), spZ_v]
    rw [unhide hL] at ha1 ⊢
    have d0 : decide (pc < 0) = true := decide_eq_true h0
    go_enter Tryz.func22, Tryz.ntmps22
    go_wp2_with fail
    refine bodyPost_ret (v := .agg #[.int .i64 0, .int .u16 0, .int .u16 0, .int .i64 0]) ?_ rfl ?_
    · rw [results_cell_one rfl]
      go_simp
    · exact ⟨rfl, unhide HB2 _ _, rfl⟩
  · by_cases h1 : (szP f fn : Int) ≤ pc
    · rw [atP_no (.inr h1), spZ_v]
      obtain ⟨Z, hZ⟩ : ∃ Z, Hid (szP f fn = Z) := ⟨_, hide rfl⟩
      rw [unhide hZ] at h1 HSZ
      rw [unhide hL] at ha1 HSZ HBK ⊢
      have d0 : decide (pc < 0) = false := decide_eq_false h0
      have d1 : decide ((Z : Int) ≤ pc) = true := decide_eq_true h1
      go_enter Tryz.func22, Tryz.ntmps22
      go_wp2_with fail
      refine (unhide HSZ _ (unhide HB2 _ _)).mono ?_
      rintro e w1 ⟨rfl, b1, dr1⟩
      have HDR := hide dr1
      clear dr1
      have HB1 := hide (bl_past (unhide HB2 _ _) b1)
      have hk1 := (b1.block _ (Array.getElem?_eq_some_iff.1 (unhide HBK).2).1).trans (unhide HBK).2
      obtain ⟨c1, f1, z1⟩ := blk_cells hk1
      have q0 := c1 0
      have q1 := c1 1
      have q2 := c1 2
      have q3 := c1 3
      have g0 := f1 0
      have g1 := f1 1
      have g2 := f1 2
      have g3 := f1 3
      simp at q0 q1 q2 q3
      clear c1 f1 hk1 b1 HBK HB2 HSZ
      go_wp2_with fail
      refine bodyPost_ret (v := .agg #[.int .i64 0, .int .u16 0, .int .u16 0, .int .i64 0]) ?_ rfl ?_
      · rw [results_cell_one rfl]
        go_simp
      · refine ⟨rfl, ?_, unhide HDR⟩
        repeat (first | refine Below.setCell ?_ (by first | (simp; done) | (simp; omega)) _ | (with_reducible exact unhide HB1))
    · obtain ⟨n, hn⟩ : ∃ n : Nat, fn = (n : Int) := by
        have : 0 ≤ fn := by
          by_cases q : fn < 0
          · rw [szP_no (.inl q)] at h1; omega
          · omega
        exact ⟨fn.toNat, by omega⟩
      subst hn
      obtain ⟨k, hk⟩ : ∃ k : Nat, pc = (k : Int) := ⟨pc.toNat, by omega⟩
      subst hk
      have hnl : n < f.length := by
        by_cases q : n < f.length
        · exact q
        · rw [szP_no (.inr (by omega))] at h1; omega
      obtain ⟨p, hp⟩ : ∃ p, f[n]? = some p := ⟨_, List.getElem?_eq_getElem hnl⟩
      rw [szP_at hp] at h1 HSZ
      have hkl : k < p.length := by omega
      obtain ⟨x, hx⟩ : ∃ x, p[k]? = some x := ⟨_, List.getElem?_eq_getElem hkl⟩
      obtain ⟨ab, ao, pa, pcc, ea, ha4, ca, hr, ha5, ha6⟩ := unhide HA n p hp
      subst ea
      obtain ⟨xb, xo, ex, hx4, c0, c1, c2, c3⟩ := hr.spot hx
      subst ex
      rw [atP_at hp hx]
      unfold spV
      obtain ⟨P, hP⟩ : ∃ P, Hid (p.length = P) := ⟨_, hide rfl⟩
      rw [unhide hP] at ca ha5 h1 HSZ hkl
      rw [unhide hL] at ha1 HSZ HBK hnl ⊢
      unfold maxLen at ha6
      have hab : ab < w.heap.size := ha4
      have hxb : xb < w.heap.size := hx4
      have i0 : (0 : Int) ≤ (n : Int) := by omega
      have i1 : (n : Int) < (L : Int) := by omega
      have i2 : (0 : Int) ≤ (k : Int) := by omega
      have i3 : (k : Int) < (P : Int) := by omega
      have d0 : decide ((k : Int) < 0) = false := decide_eq_false h0
      have d1 : decide ((P : Int) ≤ (k : Int)) = false := decide_eq_false h1
      have HCA := hide (And.intro ca (And.intro c0 (And.intro c1 (And.intro c2 c3))))
      clear ca c0 c1 c2 c3 hr hp hx HA h0 h1
      go_enter Tryz.func22, Tryz.ntmps22
      go_wp2_with fail
      refine (unhide HSZ _ (unhide HB2 _ _)).mono ?_
      rintro e w1 ⟨rfl, b1, dr1⟩
      have HDR := hide dr1
      clear dr1
      have HB1 := hide (bl_past (unhide HB2 _ _) b1)
      have hk0 := (b1.block _ (Array.getElem?_eq_some_iff.1 (unhide HBK).1).1).trans (unhide HBK).1
      have hk1 := (b1.block _ (Array.getElem?_eq_some_iff.1 (unhide HBK).2).1).trans (unhide HBK).2
      obtain ⟨e1, _, z0⟩ := blk_cells hk0
      have p0 := e1 0
      obtain ⟨c1, f1, z1⟩ := blk_cells hk1
      have q0 := c1 0
      have q1 := c1 1
      have q2 := c1 2
      have q3 := c1 3
      have g0 := f1 0
      have g1 := f1 1
      have g2 := f1 2
      have g3 := f1 3
      simp at p0 q0 q1 q2 q3
      have bl := unhide HB1
      have r0 : w1.cell? ⟨ab, ao + n, none⟩ = _ := (bl.cell (p := ⟨ab, ao + n, none⟩) hab).trans (unhide HCA).1
      have r1 : w1.cell? ⟨xb, xo + k * 4, none⟩ = _ := (bl.cell (p := ⟨xb, xo + k * 4, none⟩) hxb).trans (unhide HCA).2.1
      have r2 : w1.cell? ⟨xb, xo + k * 4 + 1, none⟩ = _ := (bl.cell (p := ⟨xb, xo + k * 4 + 1, none⟩) hxb).trans (unhide HCA).2.2.1
      have r3 : w1.cell? ⟨xb, xo + k * 4 + 2, none⟩ = _ := (bl.cell (p := ⟨xb, xo + k * 4 + 2, none⟩) hxb).trans (unhide HCA).2.2.2.1
      have r4 : w1.cell? ⟨xb, xo + k * 4 + 3, none⟩ = _ := (bl.cell (p := ⟨xb, xo + k * 4 + 3, none⟩) hxb).trans (unhide HCA).2.2.2.2
      have u0 := Nat.lt_of_lt_of_le hab bl.size
      have u1 := Nat.lt_of_lt_of_le hxb bl.size
      clear e1 c1 f1 hk0 hk1 bl HBK HB2 HCA
      clear b1 HSZ
      go_wp2_with fail
      refine bodyPost_ret (v := .agg #[.int .i64 x.c, .int .u16 x.a, .int .u16 x.b, .int .i64 x.k]) ?_ rfl ?_
      · rw [results_cell_one rfl]
        go_simp
      · refine ⟨rfl, ?_, unhide HDR⟩
        repeat (first | refine Below.setCell ?_ (by first | (simp; done) | (simp; omega)) _ | (with_reducible exact unhide HB1))
/-- cmp.Or of two. -/
def orI (x y : Int) : Int := if x = 0 then y else x
/-- cmp.Compare. -/
def cpI (a b : Int) : Int := if a < b then -1 else if b < a then 1 else 0
set_option maxRecDepth 100000 in
theorem nan53 (w : World) (x : Int) : Calls Tryz.prog 72 #[.int .i64 x] w fun e w' => e = .returned (.bool false) ∧ w' = w := by
  have dd : (x != x) = false := by simp
  go_enter Tryz.func72, Tryz.ntmps72
  go_wp2_with fail
  go_ret
  exact ⟨rfl, rfl⟩
set_option maxRecDepth 100000 in
theorem nan54 (w : World) (x : Int) : Calls Tryz.prog 73 #[.int .i64 x] w fun e w' => e = .returned (.bool false) ∧ w' = w := by
  have dd : (x != x) = false := by simp
  go_enter Tryz.func73, Tryz.ntmps73
  go_wp2_with fail
  go_ret
  exact ⟨rfl, rfl⟩
set_option maxRecDepth 100000 in
set_option maxHeartbeats 800000 in
theorem cmp64_any (w : World) (a b : Int) : Calls Tryz.prog 48 #[.int .i64 a, .int .i64 b] w fun e w' => e = .returned (.int .i64 (cpI a b)) ∧ w' = w := by
  have HN := hide (fun (x : Int) => nan53 w x)
  have dd : ∀ x : Int, (x != x) = false := fun x => by simp
  unfold cpI
  by_cases h1 : a < b
  · have d1 : decide (a < b) = true := decide_eq_true h1
    rw [if_pos h1]
    clear h1
    go_enter Tryz.func48, Tryz.ntmps48
    go_wp2_with (first | (go_at_call 72; refine (unhide HN _).mono ?_; rintro e w' ⟨rfl, rfl⟩))
    go_ret
    exact ⟨rfl, rfl⟩
  · have d1 : decide (a < b) = false := decide_eq_false h1
    rw [if_neg h1]
    by_cases h2 : b < a
    · have d2 : decide (b < a) = true := decide_eq_true h2
      rw [if_pos h2]
      clear h1 h2
      go_enter Tryz.func48, Tryz.ntmps48
      go_wp2_with (first | (go_at_call 72; refine (unhide HN _).mono ?_; rintro e w' ⟨rfl, rfl⟩))
      go_ret
      exact ⟨rfl, rfl⟩
    · have d2 : decide (b < a) = false := decide_eq_false h2
      rw [if_neg h2]
      clear h1 h2
      go_enter Tryz.func48, Tryz.ntmps48
      go_wp2_with (first | (go_at_call 72; refine (unhide HN _).mono ?_; rintro e w' ⟨rfl, rfl⟩))
      go_ret
      exact ⟨rfl, rfl⟩
set_option maxRecDepth 100000 in
set_option maxHeartbeats 800000 in
theorem cmpI_any (w : World) (a b : Int) : Calls Tryz.prog 49 #[.int .i64 a, .int .i64 b] w fun e w' => e = .returned (.int .i64 (cpI a b)) ∧ w' = w := by
  have HN := hide (fun (x : Int) => nan54 w x)
  have dd : ∀ x : Int, (x != x) = false := fun x => by simp
  unfold cpI
  by_cases h1 : a < b
  · have d1 : decide (a < b) = true := decide_eq_true h1
    rw [if_pos h1]
    clear h1
    go_enter Tryz.func49, Tryz.ntmps49
    go_wp2_with (first | (go_at_call 73; refine (unhide HN _).mono ?_; rintro e w' ⟨rfl, rfl⟩))
    go_ret
    exact ⟨rfl, rfl⟩
  · have d1 : decide (a < b) = false := decide_eq_false h1
    rw [if_neg h1]
    by_cases h2 : b < a
    · have d2 : decide (b < a) = true := decide_eq_true h2
      rw [if_pos h2]
      clear h1 h2
      go_enter Tryz.func49, Tryz.ntmps49
      go_wp2_with (first | (go_at_call 73; refine (unhide HN _).mono ?_; rintro e w' ⟨rfl, rfl⟩))
      go_ret
      exact ⟨rfl, rfl⟩
    · have d2 : decide (b < a) = false := decide_eq_false h2
      rw [if_neg h2]
      clear h1 h2
      go_enter Tryz.func49, Tryz.ntmps49
      go_wp2_with (first | (go_at_call 73; refine (unhide HN _).mono ?_; rintro e w' ⟨rfl, rfl⟩))
      go_ret
      exact ⟨rfl, rfl⟩
set_option maxRecDepth 100000 in
set_option maxHeartbeats 1600000 in
theorem or2_any (w : World) (x y : Int) (b : Nat) (h0 : w.cell? ⟨b, 0, none⟩ = some (.int .i64 x)) (h1 : w.cell? ⟨b, 1, none⟩ = some (.int .i64 y)) (hb : b < w.heap.size) :
    Calls Tryz.prog 47 #[.slice (some ⟨b, 0, none⟩) 2 2] w fun e w' => e = .returned (.int .i64 (orI x y)) ∧ w' = w := by
  have HH := hide (And.intro h0 h1)
  clear h0 h1
  go_enter Tryz.func47, Tryz.ntmps47
  go_wp2_with fail
  go_loopg [8] 2 (fun gg t8 wr => ∃ (i : Nat), Hid (i + gg = 2) ∧ t8 = .int .i64 (i : Int) ∧ Hid (wr = w ∧ (0 < i → x = 0) ∧ (1 < i → y = 0)))
  case atStart => exact ⟨0, by unfold Hid; omega, rfl, rfl, by omega, by omega⟩
  case round =>
    obtain ⟨i, hi, rfl, hW⟩ := hrel
    obtain ⟨e1, z0, z1⟩ := unhide hW
    subst e1
    have HZ := hide (And.intro z0 z1)
    clear z0 z1 hW
    obtain ⟨q0, q1⟩ := unhide HH
    by_cases hlt : i < 2
    · have h2 : i = 0 ∨ i = 1 := by omega
      rcases h2 with rfl | rfl
      · by_cases hx : x = 0
        · have d0 : (x != 0) = false := by simpa using hx
          have HN : Hid (True ∧ (0 < 1 → x = 0) ∧ (1 < 1 → y = 0)) := ⟨trivial, fun _ => hx, by omega⟩
          have HX := hide hx
          clear hx HZ HN
          go_wp2_with fail
          go_roundg (gk - 1)
          case measure => have := unhide hi; omega
          case rel => exact ⟨1, by have := unhide hi; unfold Hid; omega, rfl, rfl, fun _ => unhide HX, by omega⟩
        · have d0 : (x != 0) = true := by simpa using hx
          have HX := hide hx
          clear hx HZ
          go_wp2_with fail
          go_ret
          exact ⟨by unfold orI; rw [if_neg (unhide HX)]; rfl, rfl⟩
      · have HX := hide ((unhide HZ).1 (by omega))
        by_cases hy : y = 0
        · have d0 : (y != 0) = false := by simpa using hy
          have HY := hide hy
          clear hy HZ
          go_wp2_with fail
          go_roundg (gk - 1)
          case measure => have := unhide hi; omega
          case rel => exact ⟨2, by have := unhide hi; unfold Hid; omega, rfl, rfl, fun _ => unhide HX, fun _ => unhide HY⟩
        · have d0 : (y != 0) = true := by simpa using hy
          clear hy HZ
          go_wp2_with fail
          go_ret
          exact ⟨by unfold orI; rw [if_pos (unhide HX)]; rfl, rfl⟩
    · have hiL : i = 2 := by have := unhide hi; omega
      subst hiL
      have HX : Hid (x = 0 ∧ y = 0) := ⟨(unhide HZ).1 (by omega), (unhide HZ).2 (by omega)⟩
      clear HZ
      go_wp2_with fail
      go_ret
      exact ⟨by unfold orI; rw [if_pos (unhide HX).1, (unhide HX).2]; rfl, rfl⟩

set_option linter.unusedVariables false
set_option linter.unusedSimpArgs false
theorem arr_split {α : Type} (a b : Array α) (h : a.size ≤ b.size) (hk : ∀ k, k < a.size → b[k]? = a[k]?) : b = a ++ b.extract a.size b.size := by
  refine Array.ext_getElem? (fun i => ?_)
  rw [Array.getElem?_append]
  by_cases q : i < a.size
  · rw [if_pos q]; exact hk i q
  · rw [if_neg q, Array.getElem?_extract, Nat.min_self]
    by_cases r : i < b.size
    · rw [if_pos (by omega), show a.size + (i - a.size) = i by omega]
    · rw [if_neg (by omega), Array.getElem?_eq_none (by omega)]
theorem grow_of {W w' : World} (h : Below W.heap.size W w') (hd : W.drawn ≤ w'.drawn) : ∃ q os', w' = Go.Sort.grow (W.drewN q) os' := by
  have hh := arr_split W.heap w'.heap h.size h.block
  refine ⟨w'.drawn - W.drawn, w'.heap.extract W.heap.size w'.heap.size, ?_⟩
  have h1 := h.os
  have h2 := h.tape
  have h3 := h.output
  have h4 : w'.drawn = W.drawn + (w'.drawn - W.drawn) := by omega
  unfold Go.Sort.grow World.drewN
  obtain ⟨heap', tape', drawn', os', out'⟩ := w'
  simp only at hh h1 h2 h3 h4 ⊢
  rw [← hh, ← h4, h1, h2, h3]
def cn0 (f : List (List Sp)) (n : Int) : Int := (atP f n 0).c
/-- What Hot compares two functions by. -/
def cfH (f : List (List Sp)) (x y : Int) : Int := orI (cpI (cn0 f y) (cn0 f x)) (cpI x y)
theorem fld0 (a b c d : Value) (W : World) : (Instr.field 62 (.agg #[a, b, c, d]) 0).run Tryz.prog W = .ok a W := by kernel_rfl
set_option maxRecDepth 100000 in
set_option maxHeartbeats 3200000 in
theorem hotC_any {W : World} {av : Value} {f : List (List Sp)} (hf : PfV W av f) (B : Nat) (hc : W.cell? ⟨B, 0, none⟩ = some av) (x y : Int) :
    Calls Tryz.prog 46 #[.int .i64 x, .int .i64 y, .pointer (some ⟨B, 0, none⟩)] W fun e w' => e = .returned (.int .i64 (cfH f x y)) ∧ Below W.heap.size W w' ∧ W.drawn ≤ w'.drawn := by
  obtain ⟨a, acap, rfl, ha1, ha2⟩ := hf.shape
  have hB : B < W.heap.size := World.block_lt_of_cell? _ _ hc
  obtain ⟨L, hL⟩ : ∃ L, Hid (f.length = L) := ⟨_, hide rfl⟩
  have HY := hide (fun V (hV : Below W.heap.size W V) => atD_any (hf.below hV (Nat.le_refl _)) y 0)
  have HX := hide (fun V (hV : Below W.heap.size W V) => atD_any (hf.below hV (Nat.le_refl _)) x 0)
  rw [unhide hL] at HX HY hc
  have HS : Hid (∀ V, Below W.heap.size W V → V.cell? ⟨B, 0, none⟩ = some (.slice a L acap) ∧ B < V.heap.size) := fun V hV => ⟨(hV.cell (p := ⟨B, 0, none⟩) hB).trans hc, Nat.lt_of_lt_of_le hB hV.size⟩
  unfold cfH cn0
  obtain ⟨xs, hxs⟩ : ∃ s, Hid (atP f x 0 = s) := ⟨_, hide rfl⟩
  obtain ⟨ys, hys⟩ : ∃ s, Hid (atP f y 0 = s) := ⟨_, hide rfl⟩
  rw [unhide hxs] at HX ⊢
  rw [unhide hys] at HY ⊢
  obtain ⟨x0, x1, x2, x3⟩ := xs
  obtain ⟨y0, y1, y2, y3⟩ := ys
  unfold spV at HX HY
  simp only at HX HY ⊢
  have hfl := fld0
  clear hf ha1 ha2 hc
  go_enter Tryz.func46, Tryz.ntmps46
  go_wp2_with fail
  refine wp_region_held_drew (S := (fun V => V.cell? ⟨B, 0, none⟩ = some (.slice a L acap) ∧ B < V.heap.size)) (by kernel_rfl) (unhide HS _ (bl_drew _)) (fun hHeld => ?_)
  clear hHeld
  refine wpAnyH_take (i := 0) (oi := _) (v := .agg #[.slice a L acap]) rfl (by kernel_rfl) (by kernel_rfl) (by kernel_rfl) (fun _ _ _ h => h) (Or.inl ⟨by rfl, (by intro w' hSw; obtain ⟨s0, s1⟩ := hSw; go_simp)⟩) (unhide HS _ (bl_drew _)) ?_
  go_simp
  refine wpAnyH_take (i := 1) (oi := _) (v := .int .i64 y) rfl (by kernel_rfl) (by kernel_rfl) (by kernel_rfl) (fun _ _ _ h => h) (Or.inl ⟨by rfl, (by intro w' hSw; obtain ⟨s0, s1⟩ := hSw; go_simp)⟩) (unhide HS _ (bl_drew _)) ?_
  go_simp
  refine wpAnyH_take (i := 4) (oi := _) (v := .agg #[.slice a L acap]) rfl (by kernel_rfl) (by kernel_rfl) (by kernel_rfl) (fun _ _ _ h => h) (Or.inl ⟨by rfl, (by intro w' hSw; obtain ⟨s0, s1⟩ := hSw; go_simp)⟩) (unhide HS _ (bl_drew _)) ?_
  go_simp
  refine wpAnyH_take (i := 5) (oi := _) (v := .int .i64 x) rfl (by kernel_rfl) (by kernel_rfl) (by kernel_rfl) (fun _ _ _ h => h) (Or.inl ⟨by rfl, (by intro w' hSw; obtain ⟨s0, s1⟩ := hSw; go_simp)⟩) (unhide HS _ (bl_drew _)) ?_
  go_simp
  refine wpAnyH_take (i := 9) (oi := _) (v := .int .i64 x) rfl (by kernel_rfl) (by kernel_rfl) (by kernel_rfl) (fun _ _ _ h => h) (Or.inl ⟨by rfl, (by intro w' hSw; obtain ⟨s0, s1⟩ := hSw; go_simp)⟩) (unhide HS _ (bl_drew _)) ?_
  go_simp
  refine wpAnyH_take (i := 10) (oi := _) (v := .int .i64 y) rfl (by kernel_rfl) (by kernel_rfl) (by kernel_rfl) (fun _ _ _ h => h) (Or.inl ⟨by rfl, (by intro w' hSw; obtain ⟨s0, s1⟩ := hSw; go_simp)⟩) (unhide HS _ (bl_drew _)) ?_
  go_simp
  refine wpAnyH_ready (rs := [2]) (by kernel_rfl) (by simp) ?_
  refine AllReadyH.cons (o := _) rfl (fun K hK => ?_) AllReadyH.nil
  go_simp
  refine (unhide HY _ (bl_drew _)).mono ?_
  rintro e w2 ⟨rfl, b2, dr2⟩
  have HB2 := hide (bl_past (bl_drew _) b2)
  have HD2 := hide dr2
  clear b2 dr2
  go_simp
  refine hK.out _ _ (unhide HS _ (unhide HB2)) (fun _ => ?_)
  clear hK K
  go_simp
  refine wpAnyH_take (i := 3) (oi := _) (v := .int .i64 y0) rfl (by kernel_rfl) (by kernel_rfl) (by kernel_rfl) (fun _ _ _ h => h) (Or.inl ⟨by rfl, (by intro w' hSw; obtain ⟨s0, s1⟩ := hSw; go_simp)⟩) (unhide HS _ (unhide HB2)) ?_
  go_simp
  refine wpAnyH_ready (rs := [6]) (by kernel_rfl) (by simp) ?_
  refine AllReadyH.cons (o := _) rfl (fun K hK => ?_) AllReadyH.nil
  go_simp
  refine (unhide HX _ (unhide HB2)).mono ?_
  rintro e w3 ⟨rfl, b3, dr3⟩
  have HB3 := hide (bl_past (unhide HB2) b3)
  have HD3 := hide dr3
  clear b3 dr3
  go_simp
  refine hK.out _ _ (unhide HS _ (unhide HB3)) (fun _ => ?_)
  clear hK K
  go_simp
  refine wpAnyH_take (i := 7) (oi := _) (v := .int .i64 x0) rfl (by kernel_rfl) (by kernel_rfl) (by kernel_rfl) (fun _ _ _ h => h) (Or.inl ⟨by rfl, (by intro w' hSw; obtain ⟨s0, s1⟩ := hSw; go_simp)⟩) (unhide HS _ (unhide HB3)) ?_
  go_simp
  refine wpAnyH_ready (rs := [8]) (by kernel_rfl) (by simp) ?_
  refine AllReadyH.cons (o := _) rfl (fun K hK => ?_) AllReadyH.nil
  go_simp
  refine (cmp64_any w3 y0 x0).mono ?_
  rintro e w4 ⟨rfl, e4⟩
  have e5 := e4.symm
  subst e5
  go_simp
  refine hK.out _ _ (unhide HS _ (unhide HB3)) (fun _ => ?_)
  clear hK K
  go_simp
  refine wpAnyH_ready (rs := [11]) (by kernel_rfl) (by simp) ?_
  refine AllReadyH.cons (o := _) rfl (fun K hK => ?_) AllReadyH.nil
  go_simp
  refine (cmpI_any w3 x y).mono ?_
  rintro e w4 ⟨rfl, e4⟩
  have e5 := e4.symm
  subst e5
  go_simp
  refine hK.out _ _ (unhide HS _ (unhide HB3)) (fun _ => ?_)
  clear hK K
  go_simp
  refine wpAnyH_ready (rs := [12]) (by kernel_rfl) (by simp) ?_
  refine AllReadyH.cons (o := _) rfl (fun K hK => ?_) AllReadyH.nil
  go_simp
  refine hK.out _ _ (unhide HS _ (bl_past (unhide HB3) ((Below.refl _ _).alloc (Nat.le_refl _) _))) (fun _ => ?_)
  clear hK K
  go_simp
  refine wpAnyH_ready (rs := [13]) (by kernel_rfl) (by simp) ?_
  refine AllReadyH.cons (o := _) rfl (fun K hK => ?_) AllReadyH.nil
  go_simp
  refine (or2_any _ (cpI y0 x0) (cpI x y) w3.heap.size (by simp) (by simp) (by simp)).mono ?_
  rintro e w5 ⟨rfl, e5⟩
  subst e5
  go_simp
  refine hK.out _ _ (unhide HS _ (bl_past (unhide HB3) ((Below.refl _ _).alloc (Nat.le_refl _) _))) (fun _ => ?_)
  clear hK K
  go_simp
  refine wpAnyH_take (i := 14) (oi := _) (v := .int .i64 (orI (cpI y0 x0) (cpI x y))) rfl (by kernel_rfl) (by kernel_rfl) (by kernel_rfl) (fun _ _ _ h => h) (Or.inl ⟨by rfl, (by intro w' hSw; obtain ⟨s0, s1⟩ := hSw; go_simp)⟩) (unhide HS _ (bl_past (unhide HB3) ((Below.refl _ _).alloc (Nat.le_refl _) _))) ?_
  go_simp
  refine wpAnyH_done (by kernel_rfl) ?_ _
  go_wp2_with fail
  go_ret
  refine ⟨rfl, bl_past (unhide HB3) ((Below.refl _ _).alloc (Nat.le_refl _) _), ?_⟩
  have h1 := unhide HD2
  have h2 := unhide HD3
  show W.drawn ≤ w3.drawn
  rw [h2, h1]
  exact Nat.le_succ _
end Go.Proofs.YtclcebdcdbcpjaaGreat
