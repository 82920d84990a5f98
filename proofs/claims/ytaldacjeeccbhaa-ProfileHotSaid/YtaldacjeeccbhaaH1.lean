/-
  What Hot compares.
-/
import Derived.Test.YtaldacjeeccbhaaPAt
namespace Go.Proofs.Ytaldacjeeccbhaa
open Go.RowKit
set_option linter.unusedVariables false
set_option linter.unusedSimpArgs false
set_option maxRecDepth 100000 in
set_option maxHeartbeats 1600000 in
theorem sizeD_any {w : World} {av : Value} {f : List (List Sp)} (ha : PfV w av f) (fn : Int) :
    Calls Try.prog 50 #[.agg #[av], .int .i64 fn] w fun e w' => e = .returned (.int .i64 (szP f fn : Int)) ∧ Below w.heap.size w w' ∧ w'.drawn = w.drawn := by
  obtain ⟨a, acap, rfl, ha1, ha2⟩ := ha.shape
  have HA := hide (fun i l (hl : f[i]? = some l) => ha.row hl)
  have HB := hide (box1 w (.slice a f.length acap) 24)
  unfold maxLen at ha2
  clear ha
  obtain ⟨L, hL⟩ : ∃ L, Hid (f.length = L) := ⟨_, hide rfl⟩
  by_cases h0 : fn < 0
  · rw [szP_no (.inl h0)]
    rw [unhide hL] at ha1 HB ⊢
    have d0 : decide (fn < 0) = true := by simpa using h0
    go_enter Try.func50, Try.ntmps50
    go_wp2_with fail
    go_ret
    exact ⟨rfl, unhide HB, rfl⟩
  · by_cases h1 : (f.length : Int) ≤ fn
    · rw [szP_no (.inr h1)]
      rw [unhide hL] at ha1 h1 HB ⊢
      have d0 : decide (fn < 0) = false := by simpa using h0
      have d1 : decide ((L : Int) ≤ fn) = true := by simpa using h1
      go_enter Try.func50, Try.ntmps50
      go_wp2_with fail
      go_ret
      exact ⟨rfl, unhide HB, rfl⟩
    · obtain ⟨n, rfl⟩ : ∃ n : Nat, fn = (n : Int) := ⟨fn.toNat, by omega⟩
      have hn : n < f.length := by omega
      obtain ⟨p, hp⟩ : ∃ p, f[n]? = some p := ⟨_, List.getElem?_eq_getElem hn⟩
      obtain ⟨ab, ao, pa, pc, ea, ha4, ca, _, ha5, ha6⟩ := unhide HA n p hp
      subst ea
      rw [szP_at hp]
      obtain ⟨P, hP⟩ : ∃ P, Hid (p.length = P) := ⟨_, hide rfl⟩
      rw [unhide hP] at ca ha5 ⊢
      rw [unhide hL] at ha1 h1 hn HB ⊢
      have i0 : (0 : Int) ≤ (n : Int) := by omega
      have i1 : (n : Int) < (L : Int) := by omega
      have hb1 : ab < w.heap.size + 1 := by have h4 : ab < w.heap.size := ha4; omega
      have hab : ab < w.heap.size := ha4
      have d0 : decide ((n : Int) < 0) = false := decide_eq_false h0
      have d1 : decide ((L : Int) ≤ (n : Int)) = false := by simpa using h1
      clear hp h0 h1 HA
      go_enter Try.func50, Try.ntmps50
      go_wp2_with fail
      go_ret
      exact ⟨rfl, unhide HB, rfl⟩
set_option maxRecDepth 100000 in
set_option maxHeartbeats 1600000 in
theorem atD_any {w : World} {av : Value} {f : List (List Sp)} (ha : PfV w av f) (fn pc : Int) :
    Calls Try.prog 28 #[.agg #[av], .int .i64 fn, .int .i64 pc] w fun e w' => e = .returned (spV (atP f fn pc)) ∧ Below w.heap.size w w' ∧ w'.drawn = w.drawn := by
  obtain ⟨a, acap, rfl, ha1, ha2⟩ := ha.shape
  have HA := hide (fun i l (hl : f[i]? = some l) => ha.row hl)
  have HB2 := hide (bl_two w)
  have HSZ := hide (fun W (hW : Below w.heap.size w W) => sizeD_any (ha.below hW (Nat.le_refl _)) fn)
  have HBK := hide (two_blk w (.slice a f.length acap) 24 #[.int .i64 0, .int .u16 0, .int .u16 0, .int .i64 0] 55)
  unfold maxLen at ha2
  clear ha
  obtain ⟨L, hL⟩ : ∃ L, Hid (f.length = L) := ⟨_, hide rfl⟩
  by_cases h0 : pc < 0
  · rw [atP_no (.inl h0), spZ_v]
    rw [unhide hL] at ha1 ⊢
    have d0 : decide (pc < 0) = true := decide_eq_true h0
    go_enter Try.func28, Try.ntmps28
    go_wp2_with fail
    refine bodyPost_ret (v := .agg #[.int .i64 0, .int .u16 0, .int .u16 0, .int .i64 0]) ?_ rfl ?_
    · rw [results_cell_one rfl]
      go_simp
    · exact ⟨rfl, unhide HB2 _ _, rfl⟩
  · by_cases h1 : (szP f fn : Int) ≤ pc
    · rw [atP_no (.inr h1), spZ_v]
      obtain ⟨Z, hZ⟩ : ∃ Z, Hid (szP f fn = Z) := ⟨_, hide rfl⟩
      rw [unhide hZ] at h1 HSZ
      rw [unhide hL] at ha1 HSZ HBK ⊢
      have d0 : decide (pc < 0) = false := decide_eq_false h0
      have d1 : decide ((Z : Int) ≤ pc) = true := decide_eq_true h1
      go_enter Try.func28, Try.ntmps28
      go_wp2_with fail
      refine (unhide HSZ _ (unhide HB2 _ _)).mono ?_
      rintro e w1 ⟨rfl, b1, dr1⟩
      have HDR := hide dr1
      clear dr1
      have HB1 := hide (bl_past (unhide HB2 _ _) b1)
      have hk1 := (b1.block _ (Array.getElem?_eq_some_iff.1 (unhide HBK).2).1).trans (unhide HBK).2
      obtain ⟨c1, f1, z1⟩ := blk_cells hk1
      have q0 := c1 0
      have q1 := c1 1
      have q2 := c1 2
      have q3 := c1 3
      have g0 := f1 0
      have g1 := f1 1
      have g2 := f1 2
      have g3 := f1 3
      simp at q0 q1 q2 q3
      clear c1 f1 hk1 b1 HBK HB2 HSZ
      go_wp2_with fail
      refine bodyPost_ret (v := .agg #[.int .i64 0, .int .u16 0, .int .u16 0, .int .i64 0]) ?_ rfl ?_
      · rw [results_cell_one rfl]
        go_simp
      · refine ⟨rfl, ?_, unhide HDR⟩
        repeat (first | refine Below.setCell ?_ (by first | (simp; done) | (simp; omega)) _ | (with_reducible exact unhide HB1))
    · obtain ⟨n, hn⟩ : ∃ n : Nat, fn = (n : Int) := by
        have : 0 ≤ fn := by
          by_cases q : fn < 0
          · rw [szP_no (.inl q)] at h1; omega
          · omega
        exact ⟨fn.toNat, by omega⟩
      subst hn
      obtain ⟨k, hk⟩ : ∃ k : Nat, pc = (k : Int) := ⟨pc.toNat, by omega⟩
      subst hk
      have hnl : n < f.length := by
        by_cases q : n < f.length
        · exact q
        · rw [szP_no (.inr (by omega))] at h1; omega
      obtain ⟨p, hp⟩ : ∃ p, f[n]? = some p := ⟨_, List.getElem?_eq_getElem hnl⟩
      rw [szP_at hp] at h1 HSZ
      have hkl : k < p.length := by omega
      obtain ⟨x, hx⟩ : ∃ x, p[k]? = some x := ⟨_, List.getElem?_eq_getElem hkl⟩
      obtain ⟨ab, ao, pa, pcc, ea, ha4, ca, hr, ha5, ha6⟩ := unhide HA n p hp
      subst ea
      obtain ⟨xb, xo, ex, hx4, c0, c1, c2, c3⟩ := hr.spot hx
      subst ex
      rw [atP_at hp hx]
      unfold spV
      obtain ⟨P, hP⟩ : ∃ P, Hid (p.length = P) := ⟨_, hide rfl⟩
      rw [unhide hP] at ca ha5 h1 HSZ hkl
      rw [unhide hL] at ha1 HSZ HBK hnl ⊢
      unfold maxLen at ha6
      have hab : ab < w.heap.size := ha4
      have hxb : xb < w.heap.size := hx4
      have i0 : (0 : Int) ≤ (n : Int) := by omega
      have i1 : (n : Int) < (L : Int) := by omega
      have i2 : (0 : Int) ≤ (k : Int) := by omega
      have i3 : (k : Int) < (P : Int) := by omega
      have d0 : decide ((k : Int) < 0) = false := decide_eq_false h0
      have d1 : decide ((P : Int) ≤ (k : Int)) = false := decide_eq_false h1
      have HCA := hide (And.intro ca (And.intro c0 (And.intro c1 (And.intro c2 c3))))
      clear ca c0 c1 c2 c3 hr hp hx HA h0 h1
      go_enter Try.func28, Try.ntmps28
      go_wp2_with fail
      refine (unhide HSZ _ (unhide HB2 _ _)).mono ?_
      rintro e w1 ⟨rfl, b1, dr1⟩
      have HDR := hide dr1
      clear dr1
      have HB1 := hide (bl_past (unhide HB2 _ _) b1)
      have hk0 := (b1.block _ (Array.getElem?_eq_some_iff.1 (unhide HBK).1).1).trans (unhide HBK).1
      have hk1 := (b1.block _ (Array.getElem?_eq_some_iff.1 (unhide HBK).2).1).trans (unhide HBK).2
      obtain ⟨e1, _, z0⟩ := blk_cells hk0
      have p0 := e1 0
      obtain ⟨c1, f1, z1⟩ := blk_cells hk1
      have q0 := c1 0
      have q1 := c1 1
      have q2 := c1 2
      have q3 := c1 3
      have g0 := f1 0
      have g1 := f1 1
      have g2 := f1 2
      have g3 := f1 3
      simp at p0 q0 q1 q2 q3
      have bl := unhide HB1
      have r0 : w1.cell? ⟨ab, ao + n, none⟩ = _ := (bl.cell (p := ⟨ab, ao + n, none⟩) hab).trans (unhide HCA).1
      have r1 : w1.cell? ⟨xb, xo + k * 4, none⟩ = _ := (bl.cell (p := ⟨xb, xo + k * 4, none⟩) hxb).trans (unhide HCA).2.1
      have r2 : w1.cell? ⟨xb, xo + k * 4 + 1, none⟩ = _ := (bl.cell (p := ⟨xb, xo + k * 4 + 1, none⟩) hxb).trans (unhide HCA).2.2.1
      have r3 : w1.cell? ⟨xb, xo + k * 4 + 2, none⟩ = _ := (bl.cell (p := ⟨xb, xo + k * 4 + 2, none⟩) hxb).trans (unhide HCA).2.2.2.1
      have r4 : w1.cell? ⟨xb, xo + k * 4 + 3, none⟩ = _ := (bl.cell (p := ⟨xb, xo + k * 4 + 3, none⟩) hxb).trans (unhide HCA).2.2.2.2
      have u0 := Nat.lt_of_lt_of_le hab bl.size
      have u1 := Nat.lt_of_lt_of_le hxb bl.size
      clear e1 c1 f1 hk0 hk1 bl HBK HB2 HCA
      clear b1 HSZ
      go_wp2_with fail
      refine bodyPost_ret (v := .agg #[.int .i64 x.c, .int .u16 x.a, .int .u16 x.b, .int .i64 x.k]) ?_ rfl ?_
      · rw [results_cell_one rfl]
        go_simp
      · refine ⟨rfl, ?_, unhide HDR⟩
        repeat (first | refine Below.setCell ?_ (by first | (simp; done) | (simp; omega)) _ | (with_reducible exact unhide HB1))
/-- cmp.Or of two. -/
def orI (x y : Int) : Int := if x = 0 then y else x
/-- cmp.Compare. -/
def cpI (a b : Int) : Int := if a < b then -1 else if b < a then 1 else 0
set_option maxRecDepth 100000 in
theorem nan53 (w : World) (x : Int) : Calls Try.prog 53 #[.int .i64 x] w fun e w' => e = .returned (.bool false) ∧ w' = w := by
  have dd : (x != x) = false := by simp
  go_enter Try.func53, Try.ntmps53
  go_wp2_with fail
  go_ret
  exact ⟨rfl, rfl⟩
set_option maxRecDepth 100000 in
theorem nan54 (w : World) (x : Int) : Calls Try.prog 54 #[.int .i64 x] w fun e w' => e = .returned (.bool false) ∧ w' = w := by
  have dd : (x != x) = false := by simp
  go_enter Try.func54, Try.ntmps54
  go_wp2_with fail
  go_ret
  exact ⟨rfl, rfl⟩
set_option maxRecDepth 100000 in
set_option maxHeartbeats 800000 in
theorem cmp64_any (w : World) (a b : Int) : Calls Try.prog 32 #[.int .i64 a, .int .i64 b] w fun e w' => e = .returned (.int .i64 (cpI a b)) ∧ w' = w := by
  have HN := hide (fun (x : Int) => nan53 w x)
  have dd : ∀ x : Int, (x != x) = false := fun x => by simp
  unfold cpI
  by_cases h1 : a < b
  · have d1 : decide (a < b) = true := decide_eq_true h1
    rw [if_pos h1]
    clear h1
    go_enter Try.func32, Try.ntmps32
    go_wp2_with (first | (go_at_call 53; refine (unhide HN _).mono ?_; rintro e w' ⟨rfl, rfl⟩))
    go_ret
    exact ⟨rfl, rfl⟩
  · have d1 : decide (a < b) = false := decide_eq_false h1
    rw [if_neg h1]
    by_cases h2 : b < a
    · have d2 : decide (b < a) = true := decide_eq_true h2
      rw [if_pos h2]
      clear h1 h2
      go_enter Try.func32, Try.ntmps32
      go_wp2_with (first | (go_at_call 53; refine (unhide HN _).mono ?_; rintro e w' ⟨rfl, rfl⟩))
      go_ret
      exact ⟨rfl, rfl⟩
    · have d2 : decide (b < a) = false := decide_eq_false h2
      rw [if_neg h2]
      clear h1 h2
      go_enter Try.func32, Try.ntmps32
      go_wp2_with (first | (go_at_call 53; refine (unhide HN _).mono ?_; rintro e w' ⟨rfl, rfl⟩))
      go_ret
      exact ⟨rfl, rfl⟩
set_option maxRecDepth 100000 in
set_option maxHeartbeats 800000 in
theorem cmpI_any (w : World) (a b : Int) : Calls Try.prog 33 #[.int .i64 a, .int .i64 b] w fun e w' => e = .returned (.int .i64 (cpI a b)) ∧ w' = w := by
  have HN := hide (fun (x : Int) => nan54 w x)
  have dd : ∀ x : Int, (x != x) = false := fun x => by simp
  unfold cpI
  by_cases h1 : a < b
  · have d1 : decide (a < b) = true := decide_eq_true h1
    rw [if_pos h1]
    clear h1
    go_enter Try.func33, Try.ntmps33
    go_wp2_with (first | (go_at_call 54; refine (unhide HN _).mono ?_; rintro e w' ⟨rfl, rfl⟩))
    go_ret
    exact ⟨rfl, rfl⟩
  · have d1 : decide (a < b) = false := decide_eq_false h1
    rw [if_neg h1]
    by_cases h2 : b < a
    · have d2 : decide (b < a) = true := decide_eq_true h2
      rw [if_pos h2]
      clear h1 h2
      go_enter Try.func33, Try.ntmps33
      go_wp2_with (first | (go_at_call 54; refine (unhide HN _).mono ?_; rintro e w' ⟨rfl, rfl⟩))
      go_ret
      exact ⟨rfl, rfl⟩
    · have d2 : decide (b < a) = false := decide_eq_false h2
      rw [if_neg h2]
      clear h1 h2
      go_enter Try.func33, Try.ntmps33
      go_wp2_with (first | (go_at_call 54; refine (unhide HN _).mono ?_; rintro e w' ⟨rfl, rfl⟩))
      go_ret
      exact ⟨rfl, rfl⟩
set_option maxRecDepth 100000 in
set_option maxHeartbeats 1600000 in
theorem or2_any (w : World) (x y : Int) (b : Nat) (h0 : w.cell? ⟨b, 0, none⟩ = some (.int .i64 x)) (h1 : w.cell? ⟨b, 1, none⟩ = some (.int .i64 y)) (hb : b < w.heap.size) :
    Calls Try.prog 31 #[.slice (some ⟨b, 0, none⟩) 2 2] w fun e w' => e = .returned (.int .i64 (orI x y)) ∧ w' = w := by
  have HH := hide (And.intro h0 h1)
  clear h0 h1
  go_enter Try.func31, Try.ntmps31
  go_wp2_with fail
  go_loopg [8] 2 (fun gg t8 wr => ∃ (i : Nat), Hid (i + gg = 2) ∧ t8 = .int .i64 (i : Int) ∧ Hid (wr = w ∧ (0 < i → x = 0) ∧ (1 < i → y = 0)))
  case atStart => exact ⟨0, by unfold Hid; omega, rfl, rfl, by omega, by omega⟩
  case round =>
    obtain ⟨i, hi, rfl, hW⟩ := hrel
    obtain ⟨e1, z0, z1⟩ := unhide hW
    subst e1
    have HZ := hide (And.intro z0 z1)
    clear z0 z1 hW
    obtain ⟨q0, q1⟩ := unhide HH
    by_cases hlt : i < 2
    · have h2 : i = 0 ∨ i = 1 := by omega
      rcases h2 with rfl | rfl
      · by_cases hx : x = 0
        · have d0 : (x != 0) = false := by simpa using hx
          have HN : Hid (True ∧ (0 < 1 → x = 0) ∧ (1 < 1 → y = 0)) := ⟨trivial, fun _ => hx, by omega⟩
          have HX := hide hx
          clear hx HZ HN
          go_wp2_with fail
          go_roundg (gk - 1)
          case measure => have := unhide hi; omega
          case rel => exact ⟨1, by have := unhide hi; unfold Hid; omega, rfl, rfl, fun _ => unhide HX, by omega⟩
        · have d0 : (x != 0) = true := by simpa using hx
          have HX := hide hx
          clear hx HZ
          go_wp2_with fail
          go_ret
          exact ⟨by unfold orI; rw [if_neg (unhide HX)]; rfl, rfl⟩
      · have HX := hide ((unhide HZ).1 (by omega))
        by_cases hy : y = 0
        · have d0 : (y != 0) = false := by simpa using hy
          have HY := hide hy
          clear hy HZ
          go_wp2_with fail
          go_roundg (gk - 1)
          case measure => have := unhide hi; omega
          case rel => exact ⟨2, by have := unhide hi; unfold Hid; omega, rfl, rfl, fun _ => unhide HX, fun _ => unhide HY⟩
        · have d0 : (y != 0) = true := by simpa using hy
          clear hy HZ
          go_wp2_with fail
          go_ret
          exact ⟨by unfold orI; rw [if_pos (unhide HX)]; rfl, rfl⟩
    · have hiL : i = 2 := by have := unhide hi; omega
      subst hiL
      have HX : Hid (x = 0 ∧ y = 0) := ⟨(unhide HZ).1 (by omega), (unhide HZ).2 (by omega)⟩
      clear HZ
      go_wp2_with fail
      go_ret
      exact ⟨by unfold orI; rw [if_pos (unhide HX).1, (unhide HX).2]; rfl, rfl⟩
end Go.Proofs.Ytaldacjeeccbhaa
