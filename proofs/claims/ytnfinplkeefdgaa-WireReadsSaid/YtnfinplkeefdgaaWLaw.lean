/-
  Every script of calls of two readers.
-/
import Derived.Test.YtnfinplkeefdgaaWState
import Derived.Test.YtnfinplkeefdgaaCloses
import Derived.Test.YtnfinplkeefdgaaSticky
import Derived.Deep.WholeRow
import Derived.Deep.RegionHeld3
namespace Go.Proofs.Ytnfinplkeefdgaa
open Go.RowKit

/-- One cell of a new block. -/
theorem cell_one_at (w : World) (x : Value) (t : TypeId) (p : Nat) (hp : w.heap.size = p) : ∀ j u, [x][j]? = some u → (w.alloc (.cells #[x] t)).cell? ((⟨p, 0, none⟩ : Addr).add j) = some u := by
  subst hp
  exact cell_one_new w x t
/-- Three cells stored. -/
theorem stored3 (w : World) (b : Nat) (u0 u1 u2 : Value) {z0 z1 z2 : Value} (h0 : w.cell? ⟨b, 0, none⟩ = some z0) (h1 : w.cell? ⟨b, 1, none⟩ = some z1) (h2 : w.cell? ⟨b, 2, none⟩ = some z2) :
    Fr (fun k => k = b) w (((w.setCell ⟨b, 0, none⟩ u0).setCell ⟨b, 1, none⟩ u1).setCell ⟨b, 2, none⟩ u2) ∧ (((w.setCell ⟨b, 0, none⟩ u0).setCell ⟨b, 1, none⟩ u1).setCell ⟨b, 2, none⟩ u2).cell? ⟨b, 0, none⟩ = some u0 ∧ (((w.setCell ⟨b, 0, none⟩ u0).setCell ⟨b, 1, none⟩ u1).setCell ⟨b, 2, none⟩ u2).cell? ⟨b, 1, none⟩ = some u1 ∧ (((w.setCell ⟨b, 0, none⟩ u0).setCell ⟨b, 1, none⟩ u1).setCell ⟨b, 2, none⟩ u2).cell? ⟨b, 2, none⟩ = some u2 := by
  have a1 : (w.setCell ⟨b, 0, none⟩ u0).cell? ⟨b, 1, none⟩ = some z1 := by rw [World.cell?_setCell_other _ _ _ _ (by simp)]; exact h1
  have a2 : ((w.setCell ⟨b, 0, none⟩ u0).setCell ⟨b, 1, none⟩ u1).cell? ⟨b, 2, none⟩ = some z2 := by rw [World.cell?_setCell_other _ _ _ _ (by simp), World.cell?_setCell_other _ _ _ _ (by simp)]; exact h2
  refine ⟨(((Fr.refl (fun k => k = b) w).setCell ⟨b, 0, none⟩ (.inr rfl) u0).setCell ⟨b, 1, none⟩ (.inr rfl) u1).setCell ⟨b, 2, none⟩ (.inr rfl) u2, ?_, ?_, ?_⟩
  · rw [World.cell?_setCell_other _ _ _ _ (by simp), World.cell?_setCell_other _ _ _ _ (by simp)]
    exact World.cell?_setCell_same _ _ _ h0
  · rw [World.cell?_setCell_other _ _ _ _ (by simp)]
    exact World.cell?_setCell_same _ _ _ a1
  · exact World.cell?_setCell_same _ _ _ a2
/-- Apart, of one row that is one's own. -/
theorem apart_one (w : World) (base : Nat) (l : Value) (xs : List Int) (hl : w.ownsRow base 5 1 l xs.length (xs.map By)) (hn : xs.length ≤ 140737488355000) (hb : base ≤ w.heap.size) :
    Calls Try.prog 37 #[.slice (some ⟨w.heap.size, 0, none⟩) 1 1] (w.alloc (.cells #[l] 22)) fun e w' => e = .returned (.bool true) ∧ Fr (fun b => l.ownBlock = some b) (w.alloc (.cells #[l] 22)) w' := by
  have hl2 := hl.alloc (.cells #[l] 22)
  have h0 : ∀ j, j < ([l] : List Value).length → j = 0 := fun j hj => by simp at hj; omega
  have hlb : ∀ b, l.ownBlock = some b → b < w.heap.size := fun b q => (hl.lt b q).2
  refine (apart_walk (.slice (some ⟨w.heap.size, 0, none⟩) 1 1) [l] (fun _ => xs.length) base (w.alloc (.cells #[l] 22)) ⟨some ⟨w.heap.size, 0, none⟩, 1, rfl, fun i hi => ?_⟩ ⟨fun _ => xs, ⟨fun k hk => ?_, fun k k' b hk hk' hne _ => ?_, Fr.refl _ _⟩, fun _ => rfl, fun k' hk' => by omega, fun j hj => by omega⟩ (by show 1 ≤ _; omega) (fun _ => hn) (by simp; omega) (fun j b hj q => ?_)).mono ?_
  · obtain rfl := h0 i hi
    refine ⟨w.heap.size, 0, rfl, by simp, ?_, fun k hk q => ?_⟩
    · rw [cell_of_row _ _ 0 _ 22 (0, 0) (heap_alloc_last w _)]; rfl
    · obtain rfl := h0 k hk
      have := hlb _ q
      omega
  · obtain rfl := h0 k hk
    exact hl2
  · exact absurd ((h0 k hk).trans (h0 k' hk').symm) hne
  · obtain rfl := h0 j hj
    have := hlb b q
    simp
    omega
  · rintro e w' ⟨he, hf⟩
    refine ⟨he, hf.mono (fun b hb q => ?_)⟩
    obtain ⟨j, hj, q⟩ := q
    obtain rfl := h0 j hj
    exact q

/-- Ahead of the first call. -/
theorem wr_start {w w4 : World} {R RB Q QB : Nat → Nat} {U V : Nat → Value} {bs : Nat → List Int} {s1 s2 s3 : Nat} (hb : Below w.heap.size w w4) (h1 : w.heap.size ≤ s1) (h2 : s1 ≤ s2) (h3 : s2 ≤ s3) (h4 : s3 ≤ w4.heap.size)
    (hr0 : w.heap.size ≤ R 0 ∧ R 0 < s1 ∧ w.heap.size ≤ RB 0 ∧ RB 0 < s1) (hr1 : s1 ≤ R 1 ∧ R 1 < s2 ∧ s1 ≤ RB 1 ∧ RB 1 < s2) (hq0 : s2 ≤ Q 0 ∧ Q 0 < s3 ∧ (QB 0 = RB 0 ∨ s2 ≤ QB 0) ∧ QB 0 < s3) (hq1 : s3 ≤ Q 1 ∧ Q 1 < w4.heap.size ∧ (QB 1 = RB 1 ∨ s3 ≤ QB 1) ∧ QB 1 < w4.heap.size)
    (hrd : ∀ k, k < 2 → Rdr w4 (R k) (RB k) (U k) (bs k) 0) (hrf : ∀ k, k < 2 → RefR w4 (Q k) (QB k) (V k) (bs k) 0 0) :
    WC w (w4.alloc (.cells #[.pointer (some ⟨Q 0, 0, none⟩), .pointer (some ⟨Q 1, 0, none⟩)] 65)) R RB Q QB w4.heap.size ∧
    WR w (w4.alloc (.cells #[.pointer (some ⟨Q 0, 0, none⟩), .pointer (some ⟨Q 1, 0, none⟩)] 65)) R RB Q QB w4.heap.size U V bs bs (fun _ => 0) (fun _ => 0) (fun _ => 0) (.slice none 0 0) [] (fun _ => 0) (w4.alloc (.cells #[.pointer (some ⟨Q 0, 0, none⟩), .pointer (some ⟨Q 1, 0, none⟩)] 65)) := by
  have hz : (w4.alloc (.cells #[.pointer (some ⟨Q 0, 0, none⟩), .pointer (some ⟨Q 1, 0, none⟩)] 65)).heap.size = w4.heap.size + 1 := by simp
  have hc2 : ∀ k, k < 2 → k = 0 ∨ k = 1 := fun k hk => by omega
  have n0 := (hrd 0 (by omega)).ne
  have n1 := (hrd 1 (by omega)).ne
  have m0 := (hrf 0 (by omega)).ne
  have m1 := (hrf 1 (by omega)).ne
  have hs := hb.size
  have hh := And.intro h1 (And.intro h2 h3)
  refine ⟨⟨?_, ?_, ?_, ?_, ⟨hs, by omega⟩, ?_, ?_, ?_, ?_, ?_, ?_, ?_, ?_, ?_⟩, ⟨fun k hk => (hrd k hk).alloc _, fun k hk => (hrf k hk).alloc _, fun k hk => ?_, World.ownsRow_nil _ _ _ _, ⟨fun _ => [], ⟨fun j hj => by simp at hj, fun j j' b hj => by simp at hj, Fr.refl _ _⟩, fun _ => rfl⟩, fun j b hj => by simp at hj, hb.alloc hs _, Nat.le_refl _⟩⟩
  · intro k hk; rcases hc2 k hk with rfl | rfl <;> omega
  · intro k hk; rcases hc2 k hk with rfl | rfl <;> omega
  · intro k hk; rcases hc2 k hk with rfl | rfl <;> omega
  · intro k hk; rcases hc2 k hk with rfl | rfl <;> omega
  · intro j k hj hk hn; rcases hc2 j hj with rfl | rfl <;> rcases hc2 k hk with rfl | rfl <;> omega
  · intro j k hj hk hn; rcases hc2 j hj with rfl | rfl <;> rcases hc2 k hk with rfl | rfl <;> omega
  · intro j k hj hk; rcases hc2 j hj with rfl | rfl <;> rcases hc2 k hk with rfl | rfl <;> omega
  · intro j k hj hk; rcases hc2 j hj with rfl | rfl <;> rcases hc2 k hk with rfl | rfl <;> omega
  · intro j k hj hk; rcases hc2 j hj with rfl | rfl <;> rcases hc2 k hk with rfl | rfl <;> omega
  · intro j k hj hk; rcases hc2 j hj with rfl | rfl <;> rcases hc2 k hk with rfl | rfl <;> omega
  · intro j k hj hk; rcases hc2 j hj with rfl | rfl <;> rcases hc2 k hk with rfl | rfl <;> omega
  · intro k hk; rcases hc2 k hk with rfl | rfl <;> omega
  · intro k hk; rcases hc2 k hk with rfl | rfl <;> omega
  · rw [cell_of_row _ _ k _ 65 (0, 0) (heap_alloc_last w4 _)]
    rcases hc2 k hk with rfl | rfl <;> rfl

set_option maxHeartbeats 6400000 in
set_option maxRecDepth 100000 in
theorem readsLaw (vb vc vg : Value) (b0 b1 : List Int) (gets : List GetD) (w : World) (hR0 : Rd w vb b0) (hB0 : BOk b0) (hN0 : b0.length + 4096 ≤ 140737488355328) (hR1 : Rd w vc b1) (hB1 : BOk b1) (hN1 : b1.length + 4096 ≤ 140737488355328)
    (hI : RdG w vg gets) (hM : gets.length ≤ 5864062014690) :
    Calls Try.prog 8 #[vb, vc, vg] w fun e w' => e = .returned (.bool true) ∧ Below w.heap.size w w' := by
  obtain ⟨i0, hi0, hz0, hz1, hz2⟩ := info_parts Try.info22
  obtain ⟨ga, gcap, rfl, hgets⟩ := hI
  have HGT := hide hgets
  obtain ⟨M, hMM⟩ : ∃ M, Hid (gets.length = M) := ⟨_, rfl⟩
  rw [unhide hMM] at hM ⊢
  have HR0 := hide hR0
  have HR1 := hide hR1
  have HB0 := hide hB0
  have HB1 := hide hB1
  clear hgets hR0 hR1 hB0 hB1
  have hC1 := hide (opened_any vb b0 w (unhide HR0) (by omega))
  go_enter Try.func8, Try.ntmps8
  go_wp2_with fail
  refine (unhide hC1).mono ?_
  rintro e w1 ⟨r0, rb0, u0, rfl, hr0, hrb0, hrbl0, hRd0, hb1⟩
  have HB1' := hide hb1
  have HRD0 := hide hRd0
  have hC2 := hide (opened_any vc b1 w1 ((unhide HR1).below hb1) (by omega))
  clear hRd0 hb1 hC1
  go_wp2_with fail
  refine (unhide hC2).mono ?_
  rintro e w2 ⟨r1, rb1, u1, rfl, hr1, hrb1, hrbl1, hRd1, hb2⟩
  have HB2' := hide hb2
  have HRD1 := hide hRd1
  have hb02 := hide ((unhide HB1').trans (hb2.mono (unhide HB1').size))
  have hC3 := hide (refRead_any rb0 vb b0 w2 ((unhide HR0).below (unhide hb02)) (by omega) (by have := hb2.size; omega))
  clear hRd1 hb2 hC2
  go_wp2_with fail
  refine (unhide hC3).mono ?_
  rintro e w3 ⟨q0, qb0, v0, rfl, hq0, hqb0, hqbl0, hRf0, hb3⟩
  have HB3' := hide hb3
  have HRF0 := hide hRf0
  have hb03 := hide ((unhide hb02).trans (hb3.mono (unhide hb02).size))
  have hC4 := hide (refRead_any rb1 vc b1 w3 ((unhide HR1).below (unhide hb03)) (by omega) (by have := hb3.size; omega))
  clear hRf0 hb3 hC3
  go_wp2_with fail
  refine (unhide hC4).mono ?_
  rintro e w4 ⟨q1, qb1, v1, rfl, hq1, hqb1, hqbl1, hRf1, hb4⟩
  have hb04 := hide ((unhide hb03).trans (hb4.mono (unhide hb03).size))
  obtain ⟨R, hRa, hRb⟩ : ∃ P : Nat → Nat, P 0 = r0 ∧ P 1 = r1 := ⟨fun k => if k = 0 then r0 else r1, rfl, rfl⟩
  obtain ⟨RB, hRBa, hRBb⟩ : ∃ P : Nat → Nat, P 0 = rb0 ∧ P 1 = rb1 := ⟨fun k => if k = 0 then rb0 else rb1, rfl, rfl⟩
  obtain ⟨Q, hQa, hQb⟩ : ∃ P : Nat → Nat, P 0 = q0 ∧ P 1 = q1 := ⟨fun k => if k = 0 then q0 else q1, rfl, rfl⟩
  obtain ⟨QB, hQBa, hQBb⟩ : ∃ P : Nat → Nat, P 0 = qb0 ∧ P 1 = qb1 := ⟨fun k => if k = 0 then qb0 else qb1, rfl, rfl⟩
  obtain ⟨U, hUa, hUb⟩ : ∃ P : Nat → Value, P 0 = u0 ∧ P 1 = u1 := ⟨fun k => if k = 0 then u0 else u1, rfl, rfl⟩
  obtain ⟨V, hVa, hVb⟩ : ∃ P : Nat → Value, P 0 = v0 ∧ P 1 = v1 := ⟨fun k => if k = 0 then v0 else v1, rfl, rfl⟩
  obtain ⟨B, hBa, hBb⟩ : ∃ P : Nat → List Int, P 0 = b0 ∧ P 1 = b1 := ⟨fun k => if k = 0 then b0 else b1, rfl, rfl⟩
  subst hRa hRb hRBa hRBb hQa hQb hQBa hQBb hUa hUb hVa hVb hBa hBb
  have hz1' := (unhide HB1').size
  have hz2' := (unhide HB2').size
  have hz3' := (unhide HB3').size
  have hz4' := hb4.size
  have hc2 : ∀ k, k < 2 → k = 0 ∨ k = 1 := fun k hk => by omega
  have hst := wr_start (w := w) (w4 := w4) (R := R) (RB := RB) (Q := Q) (QB := QB) (U := U) (V := V) (bs := B) (unhide hb04) hz1' hz2' hz3' hz4' ⟨hr0, (unhide HRD0).lt, hrb0, hrbl0⟩ ⟨hr1, (unhide HRD1).lt, hrb1, hrbl1⟩ ⟨hq0, (unhide HRF0).lt, hqb0, hqbl0⟩ ⟨hq1, hRf1.lt, hqb1, hqbl1⟩
    (fun k hk => by
      have f3 := hb4
      rcases hc2 k hk with rfl | rfl
      · have f := (unhide HB2').trans (((unhide HB3').trans (hb4.mono (unhide HB3').size)).mono (unhide HB2').size)
        exact (unhide HRD0).keep (Fr.of_below (S := fun _ => False) f) (fun h => h) (fun _ _ _ _ _ h => h)
      · have f := (unhide HB3').trans (hb4.mono (unhide HB3').size)
        exact (unhide HRD1).keep (Fr.of_below (S := fun _ => False) f) (fun h => h) (fun _ _ _ _ _ h => h))
    (fun k hk => by
      rcases hc2 k hk with rfl | rfl
      · exact (unhide HRF0).keep (Fr.of_below (S := fun _ => False) hb4) (fun h => h) (fun _ _ _ _ _ h => h)
      · exact hRf1)
  have hwW : Hid (w.heap.size ≤ (w4.alloc (.cells #[.pointer (some ⟨Q 0, 0, none⟩), .pointer (some ⟨Q 1, 0, none⟩)] 65)).heap.size) := by rw [Hid]; simp; omega
  have hBB : Hid (∀ k, k < 2 → BOk (B k) ∧ (B k).length + 4096 ≤ 140737488355328) := fun k hk => by
    rcases hc2 k hk with rfl | rfl
    · exact ⟨unhide HB0, hN0⟩
    · exact ⟨unhide HB1, hN1⟩
  have HST := hide hst
  clear hst hRf1 hb4 hC4 hc2 hz1' hz2' hz3' hz4' HRF0 HRD0 HRD1 HB1' HB2' HB3' hb02 hb03 hb04 hr0 hrb0 hrbl0 hr1 hrb1 hrbl1 hq0 hqb0 hqbl0 hq1 hqb1 hqbl1 HR0 HR1 HB0 HB1
  go_wp2
  obtain ⟨W, hWW⟩ : ∃ W, Hid (W = w4.alloc (.cells #[.pointer (some ⟨Q 0, 0, none⟩), .pointer (some ⟨Q 1, 0, none⟩)] 65)) := ⟨_, rfl⟩
  rw [← unhide hWW] at HST hwW ⊢
  obtain ⟨bx, hbx⟩ : ∃ bx, Hid (w4.heap.size = bx) := ⟨_, rfl⟩
  rw [unhide hbx] at HST
  try rw [unhide hbx]
  have hc : Hid (WC w W R RB Q QB bx) := (unhide HST).1
  have hS0 := hide (unhide HST).2
  clear HST
  go_loopg [10, 11] M (fun k s10 s11 wr => ∃ (j : Nat) (U : Nat → Value) (bs : Nat → List Int) (pl : Nat → Nat) (e : Nat → Int) (vs : List Value) (ns : Nat → Nat), Hid (j + k = M) ∧ s11 = .int .i64 (j : Int) ∧ Hid (∀ k, k < 2 → (B k).drop (pl k) = bs k ∧ BOk (bs k) ∧ (bs k).length + 4096 ≤ 140737488355328) ∧ Hid (vs.length ≤ j ∧ ∀ i, ns i + 4096 ≤ 140737488355328) ∧ Hid (WR w W R RB Q QB bx U V bs B pl e e s10 vs ns wr))
  case atStart => exact ⟨0, U, B, _, _, [], _, by unfold Hid; omega, rfl, fun k hk => ⟨rfl, (unhide hBB k hk).1, (unhide hBB k hk).2⟩, ⟨Nat.le_refl _, fun i => by omega⟩, hS0⟩
  case round =>
    obtain ⟨j, U, bs, pl, e, vs, ns, hj, rfl, hbs, hvs, hS⟩ := hrel
    by_cases hlt : j < M
    · obtain ⟨hnn, cb, co, rfl, hcb, hc0, hc1, hc2⟩ := unhide HGT j (by rw [unhide hMM]; exact hlt)
      have hc0 := ((unhide hS).bel.cell (p := ⟨cb, co + j * 3, none⟩) hcb).trans hc0
      have hc1 := ((unhide hS).bel.cell (p := ⟨cb, co + j * 3 + 1, none⟩) hcb).trans hc1
      have hc2 := ((unhide hS).bel.cell (p := ⟨cb, co + j * 3 + 2, none⟩) hcb).trans hc2
      have i0' : (0 : Int) ≤ (j : Int) := by omega
      have i1' : (j : Int) < (M : Int) := by omega
      generalize gets.getD j GetD.zero = gg at hnn hc0 hc1 hc2
      obtain ⟨on, kind, n⟩ := gg
      dsimp only at hnn hc0 hc1 hc2
      go_wp2_with fail
      refine (pick_any on _).mono ?_
      rintro e' wz ⟨rfl, hwz⟩
      subst hwz
      have hmod : on % 2 = 0 ∨ on % 2 = 1 := by omega
      clear hc0 hc1 hc2
      rcases hmod with hkk0 | hkk0
      · have hkk : pick2 on = 0 := by unfold pick2; omega
        rw [hkk]
        obtain ⟨x, s, nn, left, e1, hBo⟩ := both (bs 0) (e 0) on kind n ((unhide hbs 0 (by omega)).2.1) (by have := (unhide hbs 0 (by omega)).2.2; omega) hnn
        have hCr : Hid (∀ wx, RefR wx (Q 0) (QB 0) (V 0) (B 0) (pl 0) (e 0) → QB 0 < wx.heap.size → Calls Try.prog 36 #[.pointer (some ⟨Q 0, 0, none⟩), .agg #[.int .i64 on, .int .i64 kind, .int .i64 n]] wx fun e w' => RGPost (Q 0) (QB 0) (V 0) (B 0) wx x s nn left e1 e w') := fun wx h1 h2 => hBo.ref (Q 0) (QB 0) (V 0) (B 0) (pl 0) wx h1 (unhide hbs 0 (by omega)).1 (unhide hBB 0 (by omega)).1 (by have := (unhide hBB 0 (by omega)).2; omega) h2
        have hCg : Hid (∀ u wx, Rdr wx (R 0) (RB 0) u (bs 0) (e 0) → RB 0 < wx.heap.size → Calls Try.prog 32 #[.pointer (some ⟨R 0, 0, none⟩), .agg #[.int .i64 on, .int .i64 kind, .int .i64 n]] wx fun e w' => ∃ l, GPost (R 0) (RB 0) wx x s nn l left e1 e w' ∧ LOk (bs 0).length kind wx w' l) := fun u wx h1 h2 => hBo.get (R 0) (RB 0) u wx h1 h2
        have hleft : Hid (BOk left ∧ left.length ≤ (bs 0).length) := ⟨hBo.ok, hBo.len⟩
        have hx1 : Hid (WR w W R RB Q QB bx U V bs B pl e e u10 vs ns (wr.alloc (.cells #[.int .i64 on, .int .i64 kind, .int .i64 n] 57))) := (unhide hS).below (unhide hc) ((Below.refl _ _).alloc (Nat.le_refl _) _) (unhide hwW)
        have hgb0 : Hid ((wr.alloc (.cells #[.int .i64 on, .int .i64 kind, .int .i64 n] 57)).cell? ⟨wr.heap.size, 0, none⟩ = some (.int .i64 on) ∧ (wr.alloc (.cells #[.int .i64 on, .int .i64 kind, .int .i64 n] 57)).cell? ⟨wr.heap.size, 1, none⟩ = some (.int .i64 kind) ∧ (wr.alloc (.cells #[.int .i64 on, .int .i64 kind, .int .i64 n] 57)).cell? ⟨wr.heap.size, 2, none⟩ = some (.int .i64 n)) := by
          refine ⟨?_, ?_, ?_⟩
          · rw [cell_of_row _ _ 0 _ 57 (0, 0) (heap_alloc_last wr _)]; rfl
          · rw [cell_of_row _ _ 1 _ 57 (0, 0) (heap_alloc_last wr _)]; rfl
          · rw [cell_of_row _ _ 2 _ 57 (0, 0) (heap_alloc_last wr _)]; rfl
        have hgbl : Hid (W.heap.size ≤ wr.heap.size ∧ wr.heap.size < (wr.alloc (.cells #[.int .i64 on, .int .i64 kind, .int .i64 n] 57)).heap.size) := ⟨(unhide hS).fr, by simp⟩
        clear hBo hS
        go_wp2_with fail
        generalize (wr.alloc (.cells #[.int .i64 on, .int .i64 kind, .int .i64 n] 57)) = wa at *
        generalize wr.heap.size = gb at *
        have hxd : Hid (WR w W R RB Q QB bx U V bs B pl e e u10 vs ns wa.drew) := (unhide hx1).below (unhide hc) ((Below.refl _ _).drew) (unhide hwW)
        have hSd : (fun wx => wx.cell? ⟨bx, 0, none⟩ = some (.pointer (some ⟨Q 0, 0, none⟩)) ∧ wx.cell? ⟨gb, 0, none⟩ = some (.int .i64 on) ∧ wx.cell? ⟨gb, 1, none⟩ = some (.int .i64 kind) ∧ wx.cell? ⟨gb, 2, none⟩ = some (.int .i64 n)) wa.drew := ⟨(unhide hxd).bxc 0 (by omega), unhide hgb0⟩
        have hgd : Hid (gb < wa.drew.heap.size) := (unhide hgbl).2
        refine wp_region_held_drew (S := fun wx => wx.cell? ⟨bx, 0, none⟩ = some (.pointer (some ⟨Q 0, 0, none⟩)) ∧ wx.cell? ⟨gb, 0, none⟩ = some (.int .i64 on) ∧ wx.cell? ⟨gb, 1, none⟩ = some (.int .i64 kind) ∧ wx.cell? ⟨gb, 2, none⟩ = some (.int .i64 n)) (by kernel_rfl) hSd (fun hHeld => ?_)
        clear hSd hx1
        generalize wa.drew = wd at *
        refine wpAnyH_take (i := 0) (oi := _) (v := .int .i64 0) rfl (by kernel_rfl) (by kernel_rfl) (by kernel_rfl) (fun _ _ _ h => h) (Or.inl ⟨by rfl, (by intro w hSw; go_simp)⟩) (by assumption) ?_
        refine wpAnyH_take (i := 1) (oi := _) (v := .pointer (some ⟨bx, 0, none⟩)) rfl (by kernel_rfl) (by kernel_rfl) (by kernel_rfl) (fun _ _ _ h => h) (Or.inl ⟨by rfl, (by intro w hSw; go_simp)⟩) (by assumption) ?_
        refine wpAnyH_take (i := 2) (oi := _) (v := .pointer (some ⟨Q 0, 0, none⟩)) rfl (by kernel_rfl) (by kernel_rfl) (by kernel_rfl) (fun _ _ _ h => h) (Or.inl ⟨by rfl, (by intro w hSw; have hcc := hSw.1; clear hSw; go_simp)⟩) (by assumption) ?_
        go_simp
        refine wpAnyH_take (i := 3) (oi := _) (v := .agg #[.int .i64 on, .int .i64 kind, .int .i64 n]) rfl (by kernel_rfl) (by kernel_rfl) (by kernel_rfl) (fun _ _ _ h => h) (Or.inl ⟨by rfl, (by intro w hSw; obtain ⟨_, g0, g1, g2⟩ := hSw; go_simp)⟩) (by assumption) ?_
        go_simp
        refine wpAnyH_ready (rs := [4, 5]) (by kernel_rfl) (by simp) ?_
        refine AllReadyH.cons (o := _) rfl (fun K hK => ?_) ?_
        · go_simp
          refine (unhide hCr _ ((unhide hxd).rf 0 (by omega)) (Nat.lt_of_lt_of_le ((unhide hc).qbl 0 (by omega)) (unhide hxd).fr)).mono ?_
          rintro e w2 ⟨he, pl', hRf, hdr, hF⟩
          unfold GotV at he
          subst he
          have hx2 := hide ((unhide hxd).asked (unhide hc) (k := 0) (by omega) hRf hF)
          have hF' : Fr (fun b => b = Q 0) wd w2 := hF
          have hgQ : gb ≠ Q 0 := fun q => by have := (unhide hgbl).1; have := ((unhide hc).ql 0 (by omega)).2; omega
          have hS2 : (fun wx => wx.cell? ⟨bx, 0, none⟩ = some (.pointer (some ⟨Q 0, 0, none⟩)) ∧ wx.cell? ⟨gb, 0, none⟩ = some (.int .i64 on) ∧ wx.cell? ⟨gb, 1, none⟩ = some (.int .i64 kind) ∧ wx.cell? ⟨gb, 2, none⟩ = some (.int .i64 n)) w2 := ⟨(unhide hx2).bxc 0 (by omega), (hF'.cell (a := ⟨gb, 0, none⟩) (unhide hgd) hgQ).trans hHeld.2.1, (hF'.cell (a := ⟨gb, 1, none⟩) (unhide hgd) hgQ).trans hHeld.2.2.1, (hF'.cell (a := ⟨gb, 2, none⟩) (unhide hgd) hgQ).trans hHeld.2.2.2⟩
          have hg2 : Hid (gb < w2.heap.size) := Nat.lt_of_lt_of_le (unhide hgd) hF'.size
          have hal : ∀ o : Obj, (fun wx => wx.cell? ⟨bx, 0, none⟩ = some (.pointer (some ⟨Q 0, 0, none⟩)) ∧ wx.cell? ⟨gb, 0, none⟩ = some (.int .i64 on) ∧ wx.cell? ⟨gb, 1, none⟩ = some (.int .i64 kind) ∧ wx.cell? ⟨gb, 2, none⟩ = some (.int .i64 n)) (w2.alloc o) := fun o => by
            have hb : bx < w2.heap.size := by have := (unhide hc).bl.2; have := (unhide hx2).fr; omega
            exact ⟨(World.cell?_of_block (a := ⟨bx, 0, none⟩) (Below.heap_alloc _ _ _ hb)).trans hS2.1, (World.cell?_of_block (a := ⟨gb, 0, none⟩) (Below.heap_alloc _ _ _ (unhide hg2))).trans hS2.2.1, (World.cell?_of_block (a := ⟨gb, 1, none⟩) (Below.heap_alloc _ _ _ (unhide hg2))).trans hS2.2.2.1, (World.cell?_of_block (a := ⟨gb, 2, none⟩) (Below.heap_alloc _ _ _ (unhide hg2))).trans hS2.2.2.2⟩
          have Hal := hide hal
          have Hdr := hide hdr
          clear hRf hF hF' hgQ hdr hxd hal
          go_simp
          refine hK.out _ _ hS2 (fun _ => ?_)
          clear hK K
          refine wpAnyH_ready (rs := [5]) (by kernel_rfl) (by simp) ?_
          refine AllReadyH.cons (o := _) rfl (fun K hK => ?_) AllReadyH.nil
          go_simp
          refine hK.out _ _ (unhide Hal _) (fun _ => ?_)
          clear hK K
          refine wpAnyH_ready (rs := [6]) (by kernel_rfl) (by simp) ?_
          refine AllReadyH.cons (o := _) rfl (fun K hK => ?_) AllReadyH.nil
          go_simp
          refine hK.out _ _ (unhide Hal _) (fun hHeld3 => ?_)
          clear hK K
          refine wpAnyH_done (by kernel_rfl) ?_ _
          have hx3 := hide ((unhide hx2).below (unhide hc) ((Below.refl _ _).alloc (Nat.le_refl _) (.cells #[.int .u64 x, .string s, .int .i64 nn] 59)) (unhide hwW))
          obtain ⟨_, g0, g1, g2⟩ := hHeld3
          have hg3 : Hid (gb < (w2.alloc (.cells #[.int .u64 x, .string s, .int .i64 nn] 59)).heap.size) := by have := unhide hg2; rw [Hid]; simp; omega
          have hwb0 : Hid ((w2.alloc (.cells #[.int .u64 x, .string s, .int .i64 nn] 59)).cell? ⟨w2.heap.size, 0, none⟩ = some (.int .u64 x) ∧ (w2.alloc (.cells #[.int .u64 x, .string s, .int .i64 nn] 59)).cell? ⟨w2.heap.size, 1, none⟩ = some (.string s) ∧ (w2.alloc (.cells #[.int .u64 x, .string s, .int .i64 nn] 59)).cell? ⟨w2.heap.size, 2, none⟩ = some (.int .i64 nn)) := by
            refine ⟨?_, ?_, ?_⟩
            · rw [cell_of_row _ _ 0 _ 59 (0, 0) (heap_alloc_last w2 _)]; rfl
            · rw [cell_of_row _ _ 1 _ 59 (0, 0) (heap_alloc_last w2 _)]; rfl
            · rw [cell_of_row _ _ 2 _ 59 (0, 0) (heap_alloc_last w2 _)]; rfl
          have hwbl : Hid (W.heap.size ≤ w2.heap.size ∧ w2.heap.size < (w2.alloc (.cells #[.int .u64 x, .string s, .int .i64 nn] 59)).heap.size) := ⟨(unhide hx2).fr, by simp⟩
          clear hS2 hHeld hx2 Hal hCr
          go_simp
          generalize (w2.alloc (.cells #[.int .u64 x, .string s, .int .i64 nn] 59)) = w3 at *
          generalize w2.heap.size = wb at *
          go_wp2_with fail
          refine (unhide hCg _ _ ((unhide hx3).rd 0 (by omega)) (Nat.lt_of_lt_of_le ((unhide hc).rbl 0 (by omega)) (unhide hx3).fr)).mono ?_
          rintro e w4 ⟨l, ⟨he, v2, hRd, hF⟩, hLk⟩
          unfold GotV at he
          subst he
          have hF' : Fr (fun b => b = R 0) w3 w4 := hF
          have hx4 := hide ((unhide hx3).got (unhide hc) (k := 0) (by omega) hRd hF)
          have hgR : gb ≠ R 0 := fun q => by have := (unhide hgbl).1; have := ((unhide hc).rl 0 (by omega)).2; omega
          have hwR : wb ≠ R 0 := fun q => by have := (unhide hwbl).1; have := ((unhide hc).rl 0 (by omega)).2; omega
          have g0' : w4.cell? ⟨gb, 0, none⟩ = some (.int .i64 on) := (hF'.cell (a := ⟨gb, 0, none⟩) (unhide hg3) hgR).trans g0
          have g1' : w4.cell? ⟨gb, 1, none⟩ = some (.int .i64 kind) := (hF'.cell (a := ⟨gb, 1, none⟩) (unhide hg3) hgR).trans g1
          have q0 : w4.cell? ⟨wb, 0, none⟩ = some (.int .u64 x) := (hF'.cell (a := ⟨wb, 0, none⟩) (unhide hwbl).2 hwR).trans (unhide hwb0).1
          have q1 : w4.cell? ⟨wb, 1, none⟩ = some (.string s) := (hF'.cell (a := ⟨wb, 1, none⟩) (unhide hwbl).2 hwR).trans (unhide hwb0).2.1
          have q2 : w4.cell? ⟨wb, 2, none⟩ = some (.int .i64 nn) := (hF'.cell (a := ⟨wb, 2, none⟩) (unhide hwbl).2 hwR).trans (unhide hwb0).2.2
          have hg4 : gb < w4.heap.size := Nat.lt_of_lt_of_le (unhide hg3) hF'.size
          have hw4 : wb < w4.heap.size := Nat.lt_of_lt_of_le (unhide hwbl).2 hF'.size
          have hlo : ∃ xs : List Int, xs.length ≤ (bs 0).length ∧ w4.ownsRow (w3.heap.size + 2) 5 1 l xs.length (xs.map By) := by
            rcases hLk with rfl | ⟨_, xs, h1, h2⟩
            · exact ⟨[], Nat.zero_le _, World.ownsRow_nil _ _ _ _⟩
            · exact ⟨xs, h1, h2⟩
          obtain ⟨xs, hxl, hlo⟩ := hlo
          obtain ⟨la, lc, hls⟩ := row_shape hlo
          subst hls
          have hs3 : W.heap.size ≤ w3.heap.size := (unhide hx3).fr
          have hlW : Hid (w4.ownsRow W.heap.size 5 1 (.slice la xs.length lc) xs.length (xs.map By)) := own_mono hlo (by omega)
          have hlr : Hid (∀ j b, j < vs.length → (vs.getD j (.slice none 0 0)).ownBlock = some b → (Value.slice la xs.length lc).ownBlock ≠ some b) := fun j b hj hb q => by
            have h1 := ((unhide hx3).rowl hj hb).2
            have h2 := (hlo.lt b q).1
            omega
          have hlt : Hid (∀ b, u10.ownBlock = some b → (Value.slice la xs.length lc).ownBlock ≠ some b) := fun b hb q => by
            have h1 := ((unhide hx3).tow.lt b hb).2
            have h2 := (hlo.lt b q).1
            omega
          obtain ⟨ll, hll⟩ : ∃ ll, Hid (xs.length = ll) := ⟨_, rfl⟩
          have Hxl := hide hxl
          have hstate : Hid (∀ k, k < 2 → (B k).drop (updF pl 0 pl' k) = updF bs 0 left k ∧ BOk (updF bs 0 left k) ∧ (updF bs 0 left k).length + 4096 ≤ 140737488355328) := fun k hk => by
            by_cases q : k = 0
            · subst q
              rw [updF_at, updF_at]
              have h1 := (unhide hbs 0 (by omega)).2.2
              have h2 := (unhide hleft).2
              exact ⟨unhide Hdr, (unhide hleft).1, by omega⟩
            · rw [updF_ne _ _ q, updF_ne _ _ q]
              exact unhide hbs k hk
          have hnsx : Hid (xs.length + 4096 ≤ 140737488355328) := by have h1 := (unhide hbs 0 (by omega)).2.2; unfold Hid; omega
          have heq : updF e 0 e1 = updF e 0 e1 := rfl
          have hlo2 := hide hlo
          have hs3' := hide hs3
          clear hRd hF hF' hgR hwR hLk hlo hxl hs3 g0 g1 g2 hx3 hCg hwb0 heq
          generalize updF bs 0 left = bs2 at *
          generalize updF pl 0 pl' = pl2 at *
          generalize updF U 0 v2 = U2 at *
          generalize updF e 0 e1 = e2 at *
          rw [unhide hll]
          rw [unhide hll] at hlr hlt
          have hlg : Hid (∀ b, (Value.slice la ll lc).ownBlock = some b → gb < b ∧ W.heap.size ≤ b ∧ b < w4.heap.size) := fun b q => by
            have h2 := (unhide hlo2).lt b (by rw [unhide hll]; exact q)
            have h3 := unhide hg3
            exact ⟨by omega, by have := unhide hs3'; omega, h2.2⟩
          have hx5 := hide ((unhide hx4).below (unhide hc) ((Below.refl _ _).alloc (Nat.le_refl _) (.cells #[.int .u64 x, .string s, .int .i64 nn] 59)) (unhide hwW))
          have hl5 : Hid ((w4.alloc (.cells #[.int .u64 x, .string s, .int .i64 nn] 59)).ownsRow W.heap.size 5 1 (.slice la ll lc) xs.length (xs.map By)) := by
            have h := (unhide hlW).alloc (.cells #[.int .u64 x, .string s, .int .i64 nn] 59)
            rw [unhide hll] at h
            rw [Hid, unhide hll]
            exact h
          clear hx4 hlW
          by_cases hk5 : kind = 5
          · subst hk5
            by_cases hon : 2 ≤ on
            · have hon2 : ¬ on < 2 := by omega
              have hAp := hide (apart_one (w4.alloc (.cells #[.int .u64 x, .string s, .int .i64 nn] 59)) W.heap.size (.slice la ll lc) xs (unhide hl5) (by have := unhide hnsx; omega) (unhide hx5).fr)
              go_wp2_with fail
              have hsz5 : (w4.alloc (.cells #[.int .u64 x, .string s, .int .i64 nn] 59)).heap.size = w4.heap.size + 1 := by simp
              rw [hsz5] at hAp
              refine (unhide hAp).mono ?_
              rintro e' w7 ⟨rfl, hF7⟩
              have hx6 := (unhide hx5).below (unhide hc) ((Below.refl _ _).alloc (Nat.le_refl _) (.cells #[.slice la ll lc] 22)) (unhide hwW)
              have hx7 := hide (hx6.keep (unhide hc) hF7 (fun b hb q => by have := (unhide hlg b q).2.1; omega) (fun b hb q => unhide hlt b hb q) (fun j b hj hb q => unhide hlr j b hj hb q) (unhide hwW))
              have hgs : ∀ i, w7.cell? ⟨gb, i, none⟩ = ((w4.alloc (.cells #[.int .u64 x, .string s, .int .i64 nn] 59)).alloc (.cells #[.slice la ll lc] 22)).cell? ⟨gb, i, none⟩ := fun i => hF7.cell (a := ⟨gb, i, none⟩) (by simp; omega) (fun q => by have := (unhide hlg gb q).1; omega)
              have g0'' : w7.cell? ⟨gb, 0, none⟩ = some (.int .i64 on) := (hgs 0).trans (by rw [World.cell?_of_block (a := ⟨gb, 0, none⟩) (Below.heap_alloc _ _ _ (by simp; omega)), World.cell?_of_block (a := ⟨gb, 0, none⟩) (Below.heap_alloc _ _ _ hg4)]; exact g0')
              have g1'' : w7.cell? ⟨gb, 1, none⟩ = some (.int .i64 5) := (hgs 1).trans (by rw [World.cell?_of_block (a := ⟨gb, 1, none⟩) (Below.heap_alloc _ _ _ (by simp; omega)), World.cell?_of_block (a := ⟨gb, 1, none⟩) (Below.heap_alloc _ _ _ hg4)]; exact g1')
              clear hAp hF7 hx6 hgs hx5 hl5 hsz5
              go_wp2
              go_roundg (gk - 1)
              case measure => have := unhide hj; omega
              case rel => exact ⟨j + 1, U2, bs2, pl2, e2, vs, ns, by have := unhide hj; unfold Hid; omega, by go_num, hstate, ⟨by have := (unhide hvs).1; omega, (unhide hvs).2⟩, hx7⟩
            · have hon2 : on < 2 := by omega
              have HO := hide (unhide hx5).tow
              have hvl : vs.length ≤ j := (unhide hvs).1
              have hfrz : W.heap.size ≤ w4.heap.size + 1 := by have := (unhide hx5).fr; simp at this; omega
              go_wp2_with (first | (at_builtin; refine wpList_append_own_at _ rfl _ _ 66 rfl W.heap.size 22 i0 (.slice none 0 0) 1 24 Try.underlying66 hi0 hz0 hz1 hz2 rfl (by decide) _ _ _ rfl ((unhide HO).alloc _) ⟨w4.heap.size + 1, 0, none⟩ 1 1 [.slice la ll lc] rfl rfl (cell_one_at _ _ _ _ (by simp)) (by simp [Value.oneCell']) (by unfold maxLen; omega) (by omega) (by simp; omega) ?_))
              intro v' w7 hown' hgrow hnil hat
              have hx7 := hide ((unhide hx5).pushed (unhide hc) (l := .slice la ll lc) (xs := xs) (unhide hl5) (unhide hlr) (unhide hlt) hown' hgrow (by simpa using hat) (unhide hwW))
              have hns7 : Hid (∀ i, updF ns vs.length xs.length i + 4096 ≤ 140737488355328) := fun i => by
                by_cases q : i = vs.length
                · subst q; rw [updF_at]; exact unhide hnsx
                · rw [updF_ne _ _ q]; exact (unhide hvs).2 i
              clear hown' hgrow hnil hat hx5 hl5 HO
              go_wp2
              go_roundg (gk - 1)
              case measure => have := unhide hj; omega
              case rel => exact ⟨j + 1, U2, bs2, pl2, e2, vs ++ [.slice la ll lc], _, by have := unhide hj; unfold Hid; omega, by go_num, hstate, ⟨by rw [List.length_append]; show vs.length + 1 ≤ _; omega, unhide hns7⟩, hx7⟩
          · have hk5' : (kind == 5) = false := by rw [beq_eq_false_iff_ne]; exact hk5
            go_wp2
            go_roundg (gk - 1)
            case measure => have := unhide hj; omega
            case rel => exact ⟨j + 1, U2, bs2, pl2, e2, vs, ns, by have := unhide hj; unfold Hid; omega, by go_num, hstate, ⟨by have := (unhide hvs).1; omega, (unhide hvs).2⟩, hx5⟩
        refine AllReadyH.cons (o := _) rfl (fun K hK => ?_) AllReadyH.nil
        go_simp
        have hxz := hide ((unhide hxd).below (unhide hc) ((Below.refl _ _).alloc (Nat.le_refl _) (.cells #[.int .u64 0, .string ⟨#[]⟩, .int .i64 0] 59)) (unhide hwW))
        have hbx : bx < wd.heap.size := by have := (unhide hc).bl.2; have := (unhide hxd).fr; omega
        have hSz : (fun wx => wx.cell? ⟨bx, 0, none⟩ = some (.pointer (some ⟨Q 0, 0, none⟩)) ∧ wx.cell? ⟨gb, 0, none⟩ = some (.int .i64 on) ∧ wx.cell? ⟨gb, 1, none⟩ = some (.int .i64 kind) ∧ wx.cell? ⟨gb, 2, none⟩ = some (.int .i64 n)) (wd.alloc (.cells #[.int .u64 0, .string ⟨#[]⟩, .int .i64 0] 59)) := ⟨(World.cell?_of_block (a := ⟨bx, 0, none⟩) (Below.heap_alloc _ _ _ hbx)).trans hHeld.1, (World.cell?_of_block (a := ⟨gb, 0, none⟩) (Below.heap_alloc _ _ _ (unhide hgd))).trans hHeld.2.1, (World.cell?_of_block (a := ⟨gb, 1, none⟩) (Below.heap_alloc _ _ _ (unhide hgd))).trans hHeld.2.2.1, (World.cell?_of_block (a := ⟨gb, 2, none⟩) (Below.heap_alloc _ _ _ (unhide hgd))).trans hHeld.2.2.2⟩
        have hzc : Hid ((wd.alloc (.cells #[.int .u64 0, .string ⟨#[]⟩, .int .i64 0] 59)).cell? ⟨wd.heap.size, 0, none⟩ = some (.int .u64 0) ∧ (wd.alloc (.cells #[.int .u64 0, .string ⟨#[]⟩, .int .i64 0] 59)).cell? ⟨wd.heap.size, 1, none⟩ = some (.string ⟨#[]⟩) ∧ (wd.alloc (.cells #[.int .u64 0, .string ⟨#[]⟩, .int .i64 0] 59)).cell? ⟨wd.heap.size, 2, none⟩ = some (.int .i64 0)) := by
          refine ⟨?_, ?_, ?_⟩
          · rw [cell_of_row _ _ 0 _ 59 (0, 0) (heap_alloc_last wd _)]; rfl
          · rw [cell_of_row _ _ 1 _ 59 (0, 0) (heap_alloc_last wd _)]; rfl
          · rw [cell_of_row _ _ 2 _ 59 (0, 0) (heap_alloc_last wd _)]; rfl
        have hzf : Hid (∀ i, (wd.alloc (.cells #[.int .u64 0, .string ⟨#[]⟩, .int .i64 0] 59)).frozen? ⟨wd.heap.size, i, none⟩ = false) := fun i => by
          unfold World.frozen?
          rw [heap_alloc_last wd _]
          simp
        have hzl : Hid (W.heap.size ≤ wd.heap.size ∧ wd.heap.size < (wd.alloc (.cells #[.int .u64 0, .string ⟨#[]⟩, .int .i64 0] 59)).heap.size ∧ gb < wd.heap.size ∧ bx < wd.heap.size) := ⟨(unhide hxd).fr, by simp, unhide hgd, hbx⟩
        refine hK.out _ _ hSz (fun _ => ?_)
        clear hK K hbx
        generalize (wd.alloc (.cells #[.int .u64 0, .string ⟨#[]⟩, .int .i64 0] 59)) = wy at *
        generalize hwbq : wd.heap.size = wb at *
        have hdw := hide hwbq
        clear hwbq
        refine wpAnyH_ready (rs := [4]) (by kernel_rfl) (by simp) ?_
        refine AllReadyH.cons (o := _) rfl (fun K hK => ?_) AllReadyH.nil
        go_simp
        refine (unhide hCr _ ((unhide hxz).rf 0 (by omega)) (Nat.lt_of_lt_of_le ((unhide hc).qbl 0 (by omega)) (unhide hxz).fr)).mono ?_
        rintro e w2 ⟨he, pl', hRf, hdr, hF⟩
        unfold GotV at he
        subst he
        have hx2 := hide ((unhide hxz).asked (unhide hc) (k := 0) (by omega) hRf hF)
        have hF' : Fr (fun b => b = Q 0) wy w2 := hF
        have hgQ : gb ≠ Q 0 := fun q => by have := (unhide hgbl).1; have := ((unhide hc).ql 0 (by omega)).2; omega
        have hwQ : wb ≠ Q 0 := fun q => by have := (unhide hzl).1; have := ((unhide hc).ql 0 (by omega)).2; omega
        have hgy : gb < wy.heap.size := by have := (unhide hzl).2.1; have := (unhide hzl).2.2.1; omega
        have hS2 : (fun wx => wx.cell? ⟨bx, 0, none⟩ = some (.pointer (some ⟨Q 0, 0, none⟩)) ∧ wx.cell? ⟨gb, 0, none⟩ = some (.int .i64 on) ∧ wx.cell? ⟨gb, 1, none⟩ = some (.int .i64 kind) ∧ wx.cell? ⟨gb, 2, none⟩ = some (.int .i64 n)) w2 := ⟨(unhide hx2).bxc 0 (by omega), (hF'.cell (a := ⟨gb, 0, none⟩) hgy hgQ).trans hSz.2.1, (hF'.cell (a := ⟨gb, 1, none⟩) hgy hgQ).trans hSz.2.2.1, (hF'.cell (a := ⟨gb, 2, none⟩) hgy hgQ).trans hSz.2.2.2⟩
        have z0 : w2.cell? ⟨wb, 0, none⟩ = some (.int .u64 0) := (hF'.cell (a := ⟨wb, 0, none⟩) (unhide hzl).2.1 hwQ).trans (unhide hzc).1
        have z1 : w2.cell? ⟨wb, 1, none⟩ = some (.string ⟨#[]⟩) := (hF'.cell (a := ⟨wb, 1, none⟩) (unhide hzl).2.1 hwQ).trans (unhide hzc).2.1
        have z2 : w2.cell? ⟨wb, 2, none⟩ = some (.int .i64 0) := (hF'.cell (a := ⟨wb, 2, none⟩) (unhide hzl).2.1 hwQ).trans (unhide hzc).2.2
        have f0 : w2.frozen? ⟨wb, 0, none⟩ = false := (hF'.frozen (a := ⟨wb, 0, none⟩) (unhide hzl).2.1 hwQ).trans (unhide hzf 0)
        have f1 : w2.frozen? ⟨wb, 1, none⟩ = false := (hF'.frozen (a := ⟨wb, 1, none⟩) (unhide hzl).2.1 hwQ).trans (unhide hzf 1)
        have f2 : w2.frozen? ⟨wb, 2, none⟩ = false := (hF'.frozen (a := ⟨wb, 2, none⟩) (unhide hzl).2.1 hwQ).trans (unhide hzf 2)
        have hwb2 : Hid (wb < w2.heap.size ∧ gb < w2.heap.size) := ⟨Nat.lt_of_lt_of_le (unhide hzl).2.1 hF'.size, Nat.lt_of_lt_of_le hgy hF'.size⟩
        have Hdr := hide hdr
        clear hRf hF hF' hgQ hwQ hdr hgy
        go_simp
        refine hK.out _ _ hS2 (fun _ => ?_)
        clear hK K
        refine wpAnyH_ready (rs := [6]) (by kernel_rfl) (by simp) ?_
        refine AllReadyH.cons (o := _) rfl (fun K hK => ?_) AllReadyH.nil
        go_simp
        have hst3 := stored3 w2 wb (.int .u64 x) (.string s) (.int .i64 nn) z0 z1 z2
        have hS3 : (fun wx => wx.cell? ⟨bx, 0, none⟩ = some (.pointer (some ⟨Q 0, 0, none⟩)) ∧ wx.cell? ⟨gb, 0, none⟩ = some (.int .i64 on) ∧ wx.cell? ⟨gb, 1, none⟩ = some (.int .i64 kind) ∧ wx.cell? ⟨gb, 2, none⟩ = some (.int .i64 n)) (((w2.setCell ⟨wb, 0, none⟩ (.int .u64 x)).setCell ⟨wb, 1, none⟩ (.string s)).setCell ⟨wb, 2, none⟩ (.int .i64 nn)) := by
          have hbw : bx ≠ wb := fun q => by have := (unhide hzl).2.2.2; omega
          have hgw : gb ≠ wb := fun q => by have := (unhide hzl).2.2.1; omega
          exact ⟨(hst3.1.cell (a := ⟨bx, 0, none⟩) (by have := (unhide hc).bl.2; have := (unhide hx2).fr; show bx < _; omega) hbw).trans hS2.1, (hst3.1.cell (a := ⟨gb, 0, none⟩) (unhide hwb2).2 hgw).trans hS2.2.1, (hst3.1.cell (a := ⟨gb, 1, none⟩) (unhide hwb2).2 hgw).trans hS2.2.2.1, (hst3.1.cell (a := ⟨gb, 2, none⟩) (unhide hwb2).2 hgw).trans hS2.2.2.2⟩
        refine hK.out _ _ hS3 (fun _ => ?_)
        clear hK K
        refine wpAnyH_done (by kernel_rfl) ?_ _
        have hx3 := hide ((unhide hx2).keep (unhide hc) hst3.1 (fun b hb q => by have := (unhide hzl).1; omega) (fun b hb q => by
          have h1 := ((unhide hxz).tow.lt b hb).2
          have h2 := ((unhide hxd).tow.lt b hb).2
          have h3 := unhide hdw
          omega) (fun j b hj hb q => by
          have h2 := ((unhide hxd).rowl hj hb).2
          have h3 := unhide hdw
          omega) (unhide hwW))
        obtain ⟨_, g0, g1, g2⟩ := hS3
        have hg3 : Hid (gb < (((w2.setCell ⟨wb, 0, none⟩ (.int .u64 x)).setCell ⟨wb, 1, none⟩ (.string s)).setCell ⟨wb, 2, none⟩ (.int .i64 nn)).heap.size) := Nat.lt_of_lt_of_le (unhide hwb2).2 hst3.1.size
        have hwb0 := hide hst3.2
        have hwbl : Hid (W.heap.size ≤ wb ∧ wb < (((w2.setCell ⟨wb, 0, none⟩ (.int .u64 x)).setCell ⟨wb, 1, none⟩ (.string s)).setCell ⟨wb, 2, none⟩ (.int .i64 nn)).heap.size) := ⟨(unhide hzl).1, Nat.lt_of_lt_of_le (unhide hwb2).1 hst3.1.size⟩
        clear hS2 hHeld hx2 hCr hst3 z0 z1 z2 f0 f1 f2 hSz hxz
        go_simp
        generalize (((w2.setCell ⟨wb, 0, none⟩ (.int .u64 x)).setCell ⟨wb, 1, none⟩ (.string s)).setCell ⟨wb, 2, none⟩ (.int .i64 nn)) = w3 at *
        go_wp2_with fail
        refine (unhide hCg _ _ ((unhide hx3).rd 0 (by omega)) (Nat.lt_of_lt_of_le ((unhide hc).rbl 0 (by omega)) (unhide hx3).fr)).mono ?_
        rintro e w4 ⟨l, ⟨he, v2, hRd, hF⟩, hLk⟩
        unfold GotV at he
        subst he
        have hF' : Fr (fun b => b = R 0) w3 w4 := hF
        have hx4 := hide ((unhide hx3).got (unhide hc) (k := 0) (by omega) hRd hF)
        have hgR : gb ≠ R 0 := fun q => by have := (unhide hgbl).1; have := ((unhide hc).rl 0 (by omega)).2; omega
        have hwR : wb ≠ R 0 := fun q => by have := (unhide hwbl).1; have := ((unhide hc).rl 0 (by omega)).2; omega
        have g0' : w4.cell? ⟨gb, 0, none⟩ = some (.int .i64 on) := (hF'.cell (a := ⟨gb, 0, none⟩) (unhide hg3) hgR).trans g0
        have g1' : w4.cell? ⟨gb, 1, none⟩ = some (.int .i64 kind) := (hF'.cell (a := ⟨gb, 1, none⟩) (unhide hg3) hgR).trans g1
        have q0 : w4.cell? ⟨wb, 0, none⟩ = some (.int .u64 x) := (hF'.cell (a := ⟨wb, 0, none⟩) (unhide hwbl).2 hwR).trans (unhide hwb0).1
        have q1 : w4.cell? ⟨wb, 1, none⟩ = some (.string s) := (hF'.cell (a := ⟨wb, 1, none⟩) (unhide hwbl).2 hwR).trans (unhide hwb0).2.1
        have q2 : w4.cell? ⟨wb, 2, none⟩ = some (.int .i64 nn) := (hF'.cell (a := ⟨wb, 2, none⟩) (unhide hwbl).2 hwR).trans (unhide hwb0).2.2
        have hg4 : gb < w4.heap.size := Nat.lt_of_lt_of_le (unhide hg3) hF'.size
        have hw4 : wb < w4.heap.size := Nat.lt_of_lt_of_le (unhide hwbl).2 hF'.size
        have hlo : ∃ xs : List Int, xs.length ≤ (bs 0).length ∧ w4.ownsRow (w3.heap.size + 2) 5 1 l xs.length (xs.map By) := by
          rcases hLk with rfl | ⟨_, xs, h1, h2⟩
          · exact ⟨[], Nat.zero_le _, World.ownsRow_nil _ _ _ _⟩
          · exact ⟨xs, h1, h2⟩
        obtain ⟨xs, hxl, hlo⟩ := hlo
        obtain ⟨la, lc, hls⟩ := row_shape hlo
        subst hls
        have hs3 : W.heap.size ≤ w3.heap.size := (unhide hx3).fr
        have hlW : Hid (w4.ownsRow W.heap.size 5 1 (.slice la xs.length lc) xs.length (xs.map By)) := own_mono hlo (by omega)
        have hlr : Hid (∀ j b, j < vs.length → (vs.getD j (.slice none 0 0)).ownBlock = some b → (Value.slice la xs.length lc).ownBlock ≠ some b) := fun j b hj hb q => by
          have h1 := ((unhide hx3).rowl hj hb).2
          have h2 := (hlo.lt b q).1
          omega
        have hlt : Hid (∀ b, u10.ownBlock = some b → (Value.slice la xs.length lc).ownBlock ≠ some b) := fun b hb q => by
          have h1 := ((unhide hx3).tow.lt b hb).2
          have h2 := (hlo.lt b q).1
          omega
        obtain ⟨ll, hll⟩ : ∃ ll, Hid (xs.length = ll) := ⟨_, rfl⟩
        have Hxl := hide hxl
        have hstate : Hid (∀ k, k < 2 → (B k).drop (updF pl 0 pl' k) = updF bs 0 left k ∧ BOk (updF bs 0 left k) ∧ (updF bs 0 left k).length + 4096 ≤ 140737488355328) := fun k hk => by
          by_cases q : k = 0
          · subst q
            rw [updF_at, updF_at]
            have h1 := (unhide hbs 0 (by omega)).2.2
            have h2 := (unhide hleft).2
            exact ⟨unhide Hdr, (unhide hleft).1, by omega⟩
          · rw [updF_ne _ _ q, updF_ne _ _ q]
            exact unhide hbs k hk
        have hnsx : Hid (xs.length + 4096 ≤ 140737488355328) := by have h1 := (unhide hbs 0 (by omega)).2.2; unfold Hid; omega
        have heq : updF e 0 e1 = updF e 0 e1 := rfl
        have hlo2 := hide hlo
        have hs3' := hide hs3
        clear hRd hF hF' hgR hwR hLk hlo hxl hs3 g0 g1 g2 hx3 hCg hwb0 heq
        generalize updF bs 0 left = bs2 at *
        generalize updF pl 0 pl' = pl2 at *
        generalize updF U 0 v2 = U2 at *
        generalize updF e 0 e1 = e2 at *
        rw [unhide hll]
        rw [unhide hll] at hlr hlt
        have hlg : Hid (∀ b, (Value.slice la ll lc).ownBlock = some b → gb < b ∧ W.heap.size ≤ b ∧ b < w4.heap.size) := fun b q => by
          have h2 := (unhide hlo2).lt b (by rw [unhide hll]; exact q)
          have h3 := unhide hg3
          exact ⟨by omega, by have := unhide hs3'; omega, h2.2⟩
        have hx5 := hide ((unhide hx4).below (unhide hc) ((Below.refl _ _).alloc (Nat.le_refl _) (.cells #[.int .u64 x, .string s, .int .i64 nn] 59)) (unhide hwW))
        have hl5 : Hid ((w4.alloc (.cells #[.int .u64 x, .string s, .int .i64 nn] 59)).ownsRow W.heap.size 5 1 (.slice la ll lc) xs.length (xs.map By)) := by
          have h := (unhide hlW).alloc (.cells #[.int .u64 x, .string s, .int .i64 nn] 59)
          rw [unhide hll] at h
          rw [Hid, unhide hll]
          exact h
        clear hx4 hlW
        by_cases hk5 : kind = 5
        · subst hk5
          by_cases hon : 2 ≤ on
          · have hon2 : ¬ on < 2 := by omega
            have hAp := hide (apart_one (w4.alloc (.cells #[.int .u64 x, .string s, .int .i64 nn] 59)) W.heap.size (.slice la ll lc) xs (unhide hl5) (by have := unhide hnsx; omega) (unhide hx5).fr)
            go_wp2_with fail
            have hsz5 : (w4.alloc (.cells #[.int .u64 x, .string s, .int .i64 nn] 59)).heap.size = w4.heap.size + 1 := by simp
            rw [hsz5] at hAp
            refine (unhide hAp).mono ?_
            rintro e' w7 ⟨rfl, hF7⟩
            have hx6 := (unhide hx5).below (unhide hc) ((Below.refl _ _).alloc (Nat.le_refl _) (.cells #[.slice la ll lc] 22)) (unhide hwW)
            have hx7 := hide (hx6.keep (unhide hc) hF7 (fun b hb q => by have := (unhide hlg b q).2.1; omega) (fun b hb q => unhide hlt b hb q) (fun j b hj hb q => unhide hlr j b hj hb q) (unhide hwW))
            have hgs : ∀ i, w7.cell? ⟨gb, i, none⟩ = ((w4.alloc (.cells #[.int .u64 x, .string s, .int .i64 nn] 59)).alloc (.cells #[.slice la ll lc] 22)).cell? ⟨gb, i, none⟩ := fun i => hF7.cell (a := ⟨gb, i, none⟩) (by simp; omega) (fun q => by have := (unhide hlg gb q).1; omega)
            have g0'' : w7.cell? ⟨gb, 0, none⟩ = some (.int .i64 on) := (hgs 0).trans (by rw [World.cell?_of_block (a := ⟨gb, 0, none⟩) (Below.heap_alloc _ _ _ (by simp; omega)), World.cell?_of_block (a := ⟨gb, 0, none⟩) (Below.heap_alloc _ _ _ hg4)]; exact g0')
            have g1'' : w7.cell? ⟨gb, 1, none⟩ = some (.int .i64 5) := (hgs 1).trans (by rw [World.cell?_of_block (a := ⟨gb, 1, none⟩) (Below.heap_alloc _ _ _ (by simp; omega)), World.cell?_of_block (a := ⟨gb, 1, none⟩) (Below.heap_alloc _ _ _ hg4)]; exact g1')
            clear hAp hF7 hx6 hgs hx5 hl5 hsz5
            go_wp2
            go_roundg (gk - 1)
            case measure => have := unhide hj; omega
            case rel => exact ⟨j + 1, U2, bs2, pl2, e2, vs, ns, by have := unhide hj; unfold Hid; omega, by go_num, hstate, ⟨by have := (unhide hvs).1; omega, (unhide hvs).2⟩, hx7⟩
          · have hon2 : on < 2 := by omega
            have HO := hide (unhide hx5).tow
            have hvl : vs.length ≤ j := (unhide hvs).1
            have hfrz : W.heap.size ≤ w4.heap.size + 1 := by have := (unhide hx5).fr; simp at this; omega
            go_wp2_with (first | (at_builtin; refine wpList_append_own_at _ rfl _ _ 66 rfl W.heap.size 22 i0 (.slice none 0 0) 1 24 Try.underlying66 hi0 hz0 hz1 hz2 rfl (by decide) _ _ _ rfl ((unhide HO).alloc _) ⟨w4.heap.size + 1, 0, none⟩ 1 1 [.slice la ll lc] rfl rfl (cell_one_at _ _ _ _ (by simp)) (by simp [Value.oneCell']) (by unfold maxLen; omega) (by omega) (by simp; omega) ?_))
            intro v' w7 hown' hgrow hnil hat
            have hx7 := hide ((unhide hx5).pushed (unhide hc) (l := .slice la ll lc) (xs := xs) (unhide hl5) (unhide hlr) (unhide hlt) hown' hgrow (by simpa using hat) (unhide hwW))
            have hns7 : Hid (∀ i, updF ns vs.length xs.length i + 4096 ≤ 140737488355328) := fun i => by
              by_cases q : i = vs.length
              · subst q; rw [updF_at]; exact unhide hnsx
              · rw [updF_ne _ _ q]; exact (unhide hvs).2 i
            clear hown' hgrow hnil hat hx5 hl5 HO
            go_wp2
            go_roundg (gk - 1)
            case measure => have := unhide hj; omega
            case rel => exact ⟨j + 1, U2, bs2, pl2, e2, vs ++ [.slice la ll lc], _, by have := unhide hj; unfold Hid; omega, by go_num, hstate, ⟨by rw [List.length_append]; show vs.length + 1 ≤ _; omega, unhide hns7⟩, hx7⟩
        · have hk5' : (kind == 5) = false := by rw [beq_eq_false_iff_ne]; exact hk5
          go_wp2
          go_roundg (gk - 1)
          case measure => have := unhide hj; omega
          case rel => exact ⟨j + 1, U2, bs2, pl2, e2, vs, ns, by have := unhide hj; unfold Hid; omega, by go_num, hstate, ⟨by have := (unhide hvs).1; omega, (unhide hvs).2⟩, hx5⟩
      · have hkk : pick2 on = 1 := by unfold pick2; omega
        rw [hkk]
        obtain ⟨x, s, nn, left, e1, hBo⟩ := both (bs 1) (e 1) on kind n ((unhide hbs 1 (by omega)).2.1) (by have := (unhide hbs 1 (by omega)).2.2; omega) hnn
        have hCr : Hid (∀ wx, RefR wx (Q 1) (QB 1) (V 1) (B 1) (pl 1) (e 1) → QB 1 < wx.heap.size → Calls Try.prog 36 #[.pointer (some ⟨Q 1, 0, none⟩), .agg #[.int .i64 on, .int .i64 kind, .int .i64 n]] wx fun e w' => RGPost (Q 1) (QB 1) (V 1) (B 1) wx x s nn left e1 e w') := fun wx h1 h2 => hBo.ref (Q 1) (QB 1) (V 1) (B 1) (pl 1) wx h1 (unhide hbs 1 (by omega)).1 (unhide hBB 1 (by omega)).1 (by have := (unhide hBB 1 (by omega)).2; omega) h2
        have hCg : Hid (∀ u wx, Rdr wx (R 1) (RB 1) u (bs 1) (e 1) → RB 1 < wx.heap.size → Calls Try.prog 32 #[.pointer (some ⟨R 1, 0, none⟩), .agg #[.int .i64 on, .int .i64 kind, .int .i64 n]] wx fun e w' => ∃ l, GPost (R 1) (RB 1) wx x s nn l left e1 e w' ∧ LOk (bs 1).length kind wx w' l) := fun u wx h1 h2 => hBo.get (R 1) (RB 1) u wx h1 h2
        have hleft : Hid (BOk left ∧ left.length ≤ (bs 1).length) := ⟨hBo.ok, hBo.len⟩
        have hx1 : Hid (WR w W R RB Q QB bx U V bs B pl e e u10 vs ns (wr.alloc (.cells #[.int .i64 on, .int .i64 kind, .int .i64 n] 57))) := (unhide hS).below (unhide hc) ((Below.refl _ _).alloc (Nat.le_refl _) _) (unhide hwW)
        have hgb0 : Hid ((wr.alloc (.cells #[.int .i64 on, .int .i64 kind, .int .i64 n] 57)).cell? ⟨wr.heap.size, 0, none⟩ = some (.int .i64 on) ∧ (wr.alloc (.cells #[.int .i64 on, .int .i64 kind, .int .i64 n] 57)).cell? ⟨wr.heap.size, 1, none⟩ = some (.int .i64 kind) ∧ (wr.alloc (.cells #[.int .i64 on, .int .i64 kind, .int .i64 n] 57)).cell? ⟨wr.heap.size, 2, none⟩ = some (.int .i64 n)) := by
          refine ⟨?_, ?_, ?_⟩
          · rw [cell_of_row _ _ 0 _ 57 (0, 0) (heap_alloc_last wr _)]; rfl
          · rw [cell_of_row _ _ 1 _ 57 (0, 0) (heap_alloc_last wr _)]; rfl
          · rw [cell_of_row _ _ 2 _ 57 (0, 0) (heap_alloc_last wr _)]; rfl
        have hgbl : Hid (W.heap.size ≤ wr.heap.size ∧ wr.heap.size < (wr.alloc (.cells #[.int .i64 on, .int .i64 kind, .int .i64 n] 57)).heap.size) := ⟨(unhide hS).fr, by simp⟩
        clear hBo hS
        go_wp2_with fail
        generalize (wr.alloc (.cells #[.int .i64 on, .int .i64 kind, .int .i64 n] 57)) = wa at *
        generalize wr.heap.size = gb at *
        have hxd : Hid (WR w W R RB Q QB bx U V bs B pl e e u10 vs ns wa.drew) := (unhide hx1).below (unhide hc) ((Below.refl _ _).drew) (unhide hwW)
        have hSd : (fun wx => wx.cell? ⟨bx, 1, none⟩ = some (.pointer (some ⟨Q 1, 0, none⟩)) ∧ wx.cell? ⟨gb, 0, none⟩ = some (.int .i64 on) ∧ wx.cell? ⟨gb, 1, none⟩ = some (.int .i64 kind) ∧ wx.cell? ⟨gb, 2, none⟩ = some (.int .i64 n)) wa.drew := ⟨(unhide hxd).bxc 1 (by omega), unhide hgb0⟩
        have hgd : Hid (gb < wa.drew.heap.size) := (unhide hgbl).2
        refine wp_region_held_drew (S := fun wx => wx.cell? ⟨bx, 1, none⟩ = some (.pointer (some ⟨Q 1, 0, none⟩)) ∧ wx.cell? ⟨gb, 0, none⟩ = some (.int .i64 on) ∧ wx.cell? ⟨gb, 1, none⟩ = some (.int .i64 kind) ∧ wx.cell? ⟨gb, 2, none⟩ = some (.int .i64 n)) (by kernel_rfl) hSd (fun hHeld => ?_)
        clear hSd hx1
        generalize wa.drew = wd at *
        refine wpAnyH_take (i := 0) (oi := _) (v := .int .i64 1) rfl (by kernel_rfl) (by kernel_rfl) (by kernel_rfl) (fun _ _ _ h => h) (Or.inl ⟨by rfl, (by intro w hSw; go_simp)⟩) (by assumption) ?_
        refine wpAnyH_take (i := 1) (oi := _) (v := .pointer (some ⟨bx, 1, none⟩)) rfl (by kernel_rfl) (by kernel_rfl) (by kernel_rfl) (fun _ _ _ h => h) (Or.inl ⟨by rfl, (by intro w hSw; go_simp)⟩) (by assumption) ?_
        refine wpAnyH_take (i := 2) (oi := _) (v := .pointer (some ⟨Q 1, 0, none⟩)) rfl (by kernel_rfl) (by kernel_rfl) (by kernel_rfl) (fun _ _ _ h => h) (Or.inl ⟨by rfl, (by intro w hSw; have hcc := hSw.1; clear hSw; go_simp)⟩) (by assumption) ?_
        go_simp
        refine wpAnyH_take (i := 3) (oi := _) (v := .agg #[.int .i64 on, .int .i64 kind, .int .i64 n]) rfl (by kernel_rfl) (by kernel_rfl) (by kernel_rfl) (fun _ _ _ h => h) (Or.inl ⟨by rfl, (by intro w hSw; obtain ⟨_, g0, g1, g2⟩ := hSw; go_simp)⟩) (by assumption) ?_
        go_simp
        refine wpAnyH_ready (rs := [4, 5]) (by kernel_rfl) (by simp) ?_
        refine AllReadyH.cons (o := _) rfl (fun K hK => ?_) ?_
        · go_simp
          refine (unhide hCr _ ((unhide hxd).rf 1 (by omega)) (Nat.lt_of_lt_of_le ((unhide hc).qbl 1 (by omega)) (unhide hxd).fr)).mono ?_
          rintro e w2 ⟨he, pl', hRf, hdr, hF⟩
          unfold GotV at he
          subst he
          have hx2 := hide ((unhide hxd).asked (unhide hc) (k := 1) (by omega) hRf hF)
          have hF' : Fr (fun b => b = Q 1) wd w2 := hF
          have hgQ : gb ≠ Q 1 := fun q => by have := (unhide hgbl).1; have := ((unhide hc).ql 1 (by omega)).2; omega
          have hS2 : (fun wx => wx.cell? ⟨bx, 1, none⟩ = some (.pointer (some ⟨Q 1, 0, none⟩)) ∧ wx.cell? ⟨gb, 0, none⟩ = some (.int .i64 on) ∧ wx.cell? ⟨gb, 1, none⟩ = some (.int .i64 kind) ∧ wx.cell? ⟨gb, 2, none⟩ = some (.int .i64 n)) w2 := ⟨(unhide hx2).bxc 1 (by omega), (hF'.cell (a := ⟨gb, 0, none⟩) (unhide hgd) hgQ).trans hHeld.2.1, (hF'.cell (a := ⟨gb, 1, none⟩) (unhide hgd) hgQ).trans hHeld.2.2.1, (hF'.cell (a := ⟨gb, 2, none⟩) (unhide hgd) hgQ).trans hHeld.2.2.2⟩
          have hg2 : Hid (gb < w2.heap.size) := Nat.lt_of_lt_of_le (unhide hgd) hF'.size
          have hal : ∀ o : Obj, (fun wx => wx.cell? ⟨bx, 1, none⟩ = some (.pointer (some ⟨Q 1, 0, none⟩)) ∧ wx.cell? ⟨gb, 0, none⟩ = some (.int .i64 on) ∧ wx.cell? ⟨gb, 1, none⟩ = some (.int .i64 kind) ∧ wx.cell? ⟨gb, 2, none⟩ = some (.int .i64 n)) (w2.alloc o) := fun o => by
            have hb : bx < w2.heap.size := by have := (unhide hc).bl.2; have := (unhide hx2).fr; omega
            exact ⟨(World.cell?_of_block (a := ⟨bx, 1, none⟩) (Below.heap_alloc _ _ _ hb)).trans hS2.1, (World.cell?_of_block (a := ⟨gb, 0, none⟩) (Below.heap_alloc _ _ _ (unhide hg2))).trans hS2.2.1, (World.cell?_of_block (a := ⟨gb, 1, none⟩) (Below.heap_alloc _ _ _ (unhide hg2))).trans hS2.2.2.1, (World.cell?_of_block (a := ⟨gb, 2, none⟩) (Below.heap_alloc _ _ _ (unhide hg2))).trans hS2.2.2.2⟩
          have Hal := hide hal
          have Hdr := hide hdr
          clear hRf hF hF' hgQ hdr hxd hal
          go_simp
          refine hK.out _ _ hS2 (fun _ => ?_)
          clear hK K
          refine wpAnyH_ready (rs := [5]) (by kernel_rfl) (by simp) ?_
          refine AllReadyH.cons (o := _) rfl (fun K hK => ?_) AllReadyH.nil
          go_simp
          refine hK.out _ _ (unhide Hal _) (fun _ => ?_)
          clear hK K
          refine wpAnyH_ready (rs := [6]) (by kernel_rfl) (by simp) ?_
          refine AllReadyH.cons (o := _) rfl (fun K hK => ?_) AllReadyH.nil
          go_simp
          refine hK.out _ _ (unhide Hal _) (fun hHeld3 => ?_)
          clear hK K
          refine wpAnyH_done (by kernel_rfl) ?_ _
          have hx3 := hide ((unhide hx2).below (unhide hc) ((Below.refl _ _).alloc (Nat.le_refl _) (.cells #[.int .u64 x, .string s, .int .i64 nn] 59)) (unhide hwW))
          obtain ⟨_, g0, g1, g2⟩ := hHeld3
          have hg3 : Hid (gb < (w2.alloc (.cells #[.int .u64 x, .string s, .int .i64 nn] 59)).heap.size) := by have := unhide hg2; rw [Hid]; simp; omega
          have hwb0 : Hid ((w2.alloc (.cells #[.int .u64 x, .string s, .int .i64 nn] 59)).cell? ⟨w2.heap.size, 0, none⟩ = some (.int .u64 x) ∧ (w2.alloc (.cells #[.int .u64 x, .string s, .int .i64 nn] 59)).cell? ⟨w2.heap.size, 1, none⟩ = some (.string s) ∧ (w2.alloc (.cells #[.int .u64 x, .string s, .int .i64 nn] 59)).cell? ⟨w2.heap.size, 2, none⟩ = some (.int .i64 nn)) := by
            refine ⟨?_, ?_, ?_⟩
            · rw [cell_of_row _ _ 0 _ 59 (0, 0) (heap_alloc_last w2 _)]; rfl
            · rw [cell_of_row _ _ 1 _ 59 (0, 0) (heap_alloc_last w2 _)]; rfl
            · rw [cell_of_row _ _ 2 _ 59 (0, 0) (heap_alloc_last w2 _)]; rfl
          have hwbl : Hid (W.heap.size ≤ w2.heap.size ∧ w2.heap.size < (w2.alloc (.cells #[.int .u64 x, .string s, .int .i64 nn] 59)).heap.size) := ⟨(unhide hx2).fr, by simp⟩
          clear hS2 hHeld hx2 Hal hCr
          go_simp
          generalize (w2.alloc (.cells #[.int .u64 x, .string s, .int .i64 nn] 59)) = w3 at *
          generalize w2.heap.size = wb at *
          go_wp2_with fail
          refine (unhide hCg _ _ ((unhide hx3).rd 1 (by omega)) (Nat.lt_of_lt_of_le ((unhide hc).rbl 1 (by omega)) (unhide hx3).fr)).mono ?_
          rintro e w4 ⟨l, ⟨he, v2, hRd, hF⟩, hLk⟩
          unfold GotV at he
          subst he
          have hF' : Fr (fun b => b = R 1) w3 w4 := hF
          have hx4 := hide ((unhide hx3).got (unhide hc) (k := 1) (by omega) hRd hF)
          have hgR : gb ≠ R 1 := fun q => by have := (unhide hgbl).1; have := ((unhide hc).rl 1 (by omega)).2; omega
          have hwR : wb ≠ R 1 := fun q => by have := (unhide hwbl).1; have := ((unhide hc).rl 1 (by omega)).2; omega
          have g0' : w4.cell? ⟨gb, 0, none⟩ = some (.int .i64 on) := (hF'.cell (a := ⟨gb, 0, none⟩) (unhide hg3) hgR).trans g0
          have g1' : w4.cell? ⟨gb, 1, none⟩ = some (.int .i64 kind) := (hF'.cell (a := ⟨gb, 1, none⟩) (unhide hg3) hgR).trans g1
          have q0 : w4.cell? ⟨wb, 0, none⟩ = some (.int .u64 x) := (hF'.cell (a := ⟨wb, 0, none⟩) (unhide hwbl).2 hwR).trans (unhide hwb0).1
          have q1 : w4.cell? ⟨wb, 1, none⟩ = some (.string s) := (hF'.cell (a := ⟨wb, 1, none⟩) (unhide hwbl).2 hwR).trans (unhide hwb0).2.1
          have q2 : w4.cell? ⟨wb, 2, none⟩ = some (.int .i64 nn) := (hF'.cell (a := ⟨wb, 2, none⟩) (unhide hwbl).2 hwR).trans (unhide hwb0).2.2
          have hg4 : gb < w4.heap.size := Nat.lt_of_lt_of_le (unhide hg3) hF'.size
          have hw4 : wb < w4.heap.size := Nat.lt_of_lt_of_le (unhide hwbl).2 hF'.size
          have hlo : ∃ xs : List Int, xs.length ≤ (bs 1).length ∧ w4.ownsRow (w3.heap.size + 2) 5 1 l xs.length (xs.map By) := by
            rcases hLk with rfl | ⟨_, xs, h1, h2⟩
            · exact ⟨[], Nat.zero_le _, World.ownsRow_nil _ _ _ _⟩
            · exact ⟨xs, h1, h2⟩
          obtain ⟨xs, hxl, hlo⟩ := hlo
          obtain ⟨la, lc, hls⟩ := row_shape hlo
          subst hls
          have hs3 : W.heap.size ≤ w3.heap.size := (unhide hx3).fr
          have hlW : Hid (w4.ownsRow W.heap.size 5 1 (.slice la xs.length lc) xs.length (xs.map By)) := own_mono hlo (by omega)
          have hlr : Hid (∀ j b, j < vs.length → (vs.getD j (.slice none 0 0)).ownBlock = some b → (Value.slice la xs.length lc).ownBlock ≠ some b) := fun j b hj hb q => by
            have h1 := ((unhide hx3).rowl hj hb).2
            have h2 := (hlo.lt b q).1
            omega
          have hlt : Hid (∀ b, u10.ownBlock = some b → (Value.slice la xs.length lc).ownBlock ≠ some b) := fun b hb q => by
            have h1 := ((unhide hx3).tow.lt b hb).2
            have h2 := (hlo.lt b q).1
            omega
          obtain ⟨ll, hll⟩ : ∃ ll, Hid (xs.length = ll) := ⟨_, rfl⟩
          have Hxl := hide hxl
          have hstate : Hid (∀ k, k < 2 → (B k).drop (updF pl 1 pl' k) = updF bs 1 left k ∧ BOk (updF bs 1 left k) ∧ (updF bs 1 left k).length + 4096 ≤ 140737488355328) := fun k hk => by
            by_cases q : k = 1
            · subst q
              rw [updF_at, updF_at]
              have h1 := (unhide hbs 1 (by omega)).2.2
              have h2 := (unhide hleft).2
              exact ⟨unhide Hdr, (unhide hleft).1, by omega⟩
            · rw [updF_ne _ _ q, updF_ne _ _ q]
              exact unhide hbs k hk
          have hnsx : Hid (xs.length + 4096 ≤ 140737488355328) := by have h1 := (unhide hbs 1 (by omega)).2.2; unfold Hid; omega
          have heq : updF e 1 e1 = updF e 1 e1 := rfl
          have hlo2 := hide hlo
          have hs3' := hide hs3
          clear hRd hF hF' hgR hwR hLk hlo hxl hs3 g0 g1 g2 hx3 hCg hwb0 heq
          generalize updF bs 1 left = bs2 at *
          generalize updF pl 1 pl' = pl2 at *
          generalize updF U 1 v2 = U2 at *
          generalize updF e 1 e1 = e2 at *
          rw [unhide hll]
          rw [unhide hll] at hlr hlt
          have hlg : Hid (∀ b, (Value.slice la ll lc).ownBlock = some b → gb < b ∧ W.heap.size ≤ b ∧ b < w4.heap.size) := fun b q => by
            have h2 := (unhide hlo2).lt b (by rw [unhide hll]; exact q)
            have h3 := unhide hg3
            exact ⟨by omega, by have := unhide hs3'; omega, h2.2⟩
          have hx5 := hide ((unhide hx4).below (unhide hc) ((Below.refl _ _).alloc (Nat.le_refl _) (.cells #[.int .u64 x, .string s, .int .i64 nn] 59)) (unhide hwW))
          have hl5 : Hid ((w4.alloc (.cells #[.int .u64 x, .string s, .int .i64 nn] 59)).ownsRow W.heap.size 5 1 (.slice la ll lc) xs.length (xs.map By)) := by
            have h := (unhide hlW).alloc (.cells #[.int .u64 x, .string s, .int .i64 nn] 59)
            rw [unhide hll] at h
            rw [Hid, unhide hll]
            exact h
          clear hx4 hlW
          by_cases hk5 : kind = 5
          · subst hk5
            by_cases hon : 2 ≤ on
            · have hon2 : ¬ on < 2 := by omega
              have hAp := hide (apart_one (w4.alloc (.cells #[.int .u64 x, .string s, .int .i64 nn] 59)) W.heap.size (.slice la ll lc) xs (unhide hl5) (by have := unhide hnsx; omega) (unhide hx5).fr)
              go_wp2_with fail
              have hsz5 : (w4.alloc (.cells #[.int .u64 x, .string s, .int .i64 nn] 59)).heap.size = w4.heap.size + 1 := by simp
              rw [hsz5] at hAp
              refine (unhide hAp).mono ?_
              rintro e' w7 ⟨rfl, hF7⟩
              have hx6 := (unhide hx5).below (unhide hc) ((Below.refl _ _).alloc (Nat.le_refl _) (.cells #[.slice la ll lc] 22)) (unhide hwW)
              have hx7 := hide (hx6.keep (unhide hc) hF7 (fun b hb q => by have := (unhide hlg b q).2.1; omega) (fun b hb q => unhide hlt b hb q) (fun j b hj hb q => unhide hlr j b hj hb q) (unhide hwW))
              have hgs : ∀ i, w7.cell? ⟨gb, i, none⟩ = ((w4.alloc (.cells #[.int .u64 x, .string s, .int .i64 nn] 59)).alloc (.cells #[.slice la ll lc] 22)).cell? ⟨gb, i, none⟩ := fun i => hF7.cell (a := ⟨gb, i, none⟩) (by simp; omega) (fun q => by have := (unhide hlg gb q).1; omega)
              have g0'' : w7.cell? ⟨gb, 0, none⟩ = some (.int .i64 on) := (hgs 0).trans (by rw [World.cell?_of_block (a := ⟨gb, 0, none⟩) (Below.heap_alloc _ _ _ (by simp; omega)), World.cell?_of_block (a := ⟨gb, 0, none⟩) (Below.heap_alloc _ _ _ hg4)]; exact g0')
              have g1'' : w7.cell? ⟨gb, 1, none⟩ = some (.int .i64 5) := (hgs 1).trans (by rw [World.cell?_of_block (a := ⟨gb, 1, none⟩) (Below.heap_alloc _ _ _ (by simp; omega)), World.cell?_of_block (a := ⟨gb, 1, none⟩) (Below.heap_alloc _ _ _ hg4)]; exact g1')
              clear hAp hF7 hx6 hgs hx5 hl5 hsz5
              go_wp2
              go_roundg (gk - 1)
              case measure => have := unhide hj; omega
              case rel => exact ⟨j + 1, U2, bs2, pl2, e2, vs, ns, by have := unhide hj; unfold Hid; omega, by go_num, hstate, ⟨by have := (unhide hvs).1; omega, (unhide hvs).2⟩, hx7⟩
            · have hon2 : on < 2 := by omega
              have HO := hide (unhide hx5).tow
              have hvl : vs.length ≤ j := (unhide hvs).1
              have hfrz : W.heap.size ≤ w4.heap.size + 1 := by have := (unhide hx5).fr; simp at this; omega
              go_wp2_with (first | (at_builtin; refine wpList_append_own_at _ rfl _ _ 66 rfl W.heap.size 22 i0 (.slice none 0 0) 1 24 Try.underlying66 hi0 hz0 hz1 hz2 rfl (by decide) _ _ _ rfl ((unhide HO).alloc _) ⟨w4.heap.size + 1, 0, none⟩ 1 1 [.slice la ll lc] rfl rfl (cell_one_at _ _ _ _ (by simp)) (by simp [Value.oneCell']) (by unfold maxLen; omega) (by omega) (by simp; omega) ?_))
              intro v' w7 hown' hgrow hnil hat
              have hx7 := hide ((unhide hx5).pushed (unhide hc) (l := .slice la ll lc) (xs := xs) (unhide hl5) (unhide hlr) (unhide hlt) hown' hgrow (by simpa using hat) (unhide hwW))
              have hns7 : Hid (∀ i, updF ns vs.length xs.length i + 4096 ≤ 140737488355328) := fun i => by
                by_cases q : i = vs.length
                · subst q; rw [updF_at]; exact unhide hnsx
                · rw [updF_ne _ _ q]; exact (unhide hvs).2 i
              clear hown' hgrow hnil hat hx5 hl5 HO
              go_wp2
              go_roundg (gk - 1)
              case measure => have := unhide hj; omega
              case rel => exact ⟨j + 1, U2, bs2, pl2, e2, vs ++ [.slice la ll lc], _, by have := unhide hj; unfold Hid; omega, by go_num, hstate, ⟨by rw [List.length_append]; show vs.length + 1 ≤ _; omega, unhide hns7⟩, hx7⟩
          · have hk5' : (kind == 5) = false := by rw [beq_eq_false_iff_ne]; exact hk5
            go_wp2
            go_roundg (gk - 1)
            case measure => have := unhide hj; omega
            case rel => exact ⟨j + 1, U2, bs2, pl2, e2, vs, ns, by have := unhide hj; unfold Hid; omega, by go_num, hstate, ⟨by have := (unhide hvs).1; omega, (unhide hvs).2⟩, hx5⟩
        refine AllReadyH.cons (o := _) rfl (fun K hK => ?_) AllReadyH.nil
        go_simp
        have hxz := hide ((unhide hxd).below (unhide hc) ((Below.refl _ _).alloc (Nat.le_refl _) (.cells #[.int .u64 0, .string ⟨#[]⟩, .int .i64 0] 59)) (unhide hwW))
        have hbx : bx < wd.heap.size := by have := (unhide hc).bl.2; have := (unhide hxd).fr; omega
        have hSz : (fun wx => wx.cell? ⟨bx, 1, none⟩ = some (.pointer (some ⟨Q 1, 0, none⟩)) ∧ wx.cell? ⟨gb, 0, none⟩ = some (.int .i64 on) ∧ wx.cell? ⟨gb, 1, none⟩ = some (.int .i64 kind) ∧ wx.cell? ⟨gb, 2, none⟩ = some (.int .i64 n)) (wd.alloc (.cells #[.int .u64 0, .string ⟨#[]⟩, .int .i64 0] 59)) := ⟨(World.cell?_of_block (a := ⟨bx, 1, none⟩) (Below.heap_alloc _ _ _ hbx)).trans hHeld.1, (World.cell?_of_block (a := ⟨gb, 0, none⟩) (Below.heap_alloc _ _ _ (unhide hgd))).trans hHeld.2.1, (World.cell?_of_block (a := ⟨gb, 1, none⟩) (Below.heap_alloc _ _ _ (unhide hgd))).trans hHeld.2.2.1, (World.cell?_of_block (a := ⟨gb, 2, none⟩) (Below.heap_alloc _ _ _ (unhide hgd))).trans hHeld.2.2.2⟩
        have hzc : Hid ((wd.alloc (.cells #[.int .u64 0, .string ⟨#[]⟩, .int .i64 0] 59)).cell? ⟨wd.heap.size, 0, none⟩ = some (.int .u64 0) ∧ (wd.alloc (.cells #[.int .u64 0, .string ⟨#[]⟩, .int .i64 0] 59)).cell? ⟨wd.heap.size, 1, none⟩ = some (.string ⟨#[]⟩) ∧ (wd.alloc (.cells #[.int .u64 0, .string ⟨#[]⟩, .int .i64 0] 59)).cell? ⟨wd.heap.size, 2, none⟩ = some (.int .i64 0)) := by
          refine ⟨?_, ?_, ?_⟩
          · rw [cell_of_row _ _ 0 _ 59 (0, 0) (heap_alloc_last wd _)]; rfl
          · rw [cell_of_row _ _ 1 _ 59 (0, 0) (heap_alloc_last wd _)]; rfl
          · rw [cell_of_row _ _ 2 _ 59 (0, 0) (heap_alloc_last wd _)]; rfl
        have hzf : Hid (∀ i, (wd.alloc (.cells #[.int .u64 0, .string ⟨#[]⟩, .int .i64 0] 59)).frozen? ⟨wd.heap.size, i, none⟩ = false) := fun i => by
          unfold World.frozen?
          rw [heap_alloc_last wd _]
          simp
        have hzl : Hid (W.heap.size ≤ wd.heap.size ∧ wd.heap.size < (wd.alloc (.cells #[.int .u64 0, .string ⟨#[]⟩, .int .i64 0] 59)).heap.size ∧ gb < wd.heap.size ∧ bx < wd.heap.size) := ⟨(unhide hxd).fr, by simp, unhide hgd, hbx⟩
        refine hK.out _ _ hSz (fun _ => ?_)
        clear hK K hbx
        generalize (wd.alloc (.cells #[.int .u64 0, .string ⟨#[]⟩, .int .i64 0] 59)) = wy at *
        generalize hwbq : wd.heap.size = wb at *
        have hdw := hide hwbq
        clear hwbq
        refine wpAnyH_ready (rs := [4]) (by kernel_rfl) (by simp) ?_
        refine AllReadyH.cons (o := _) rfl (fun K hK => ?_) AllReadyH.nil
        go_simp
        refine (unhide hCr _ ((unhide hxz).rf 1 (by omega)) (Nat.lt_of_lt_of_le ((unhide hc).qbl 1 (by omega)) (unhide hxz).fr)).mono ?_
        rintro e w2 ⟨he, pl', hRf, hdr, hF⟩
        unfold GotV at he
        subst he
        have hx2 := hide ((unhide hxz).asked (unhide hc) (k := 1) (by omega) hRf hF)
        have hF' : Fr (fun b => b = Q 1) wy w2 := hF
        have hgQ : gb ≠ Q 1 := fun q => by have := (unhide hgbl).1; have := ((unhide hc).ql 1 (by omega)).2; omega
        have hwQ : wb ≠ Q 1 := fun q => by have := (unhide hzl).1; have := ((unhide hc).ql 1 (by omega)).2; omega
        have hgy : gb < wy.heap.size := by have := (unhide hzl).2.1; have := (unhide hzl).2.2.1; omega
        have hS2 : (fun wx => wx.cell? ⟨bx, 1, none⟩ = some (.pointer (some ⟨Q 1, 0, none⟩)) ∧ wx.cell? ⟨gb, 0, none⟩ = some (.int .i64 on) ∧ wx.cell? ⟨gb, 1, none⟩ = some (.int .i64 kind) ∧ wx.cell? ⟨gb, 2, none⟩ = some (.int .i64 n)) w2 := ⟨(unhide hx2).bxc 1 (by omega), (hF'.cell (a := ⟨gb, 0, none⟩) hgy hgQ).trans hSz.2.1, (hF'.cell (a := ⟨gb, 1, none⟩) hgy hgQ).trans hSz.2.2.1, (hF'.cell (a := ⟨gb, 2, none⟩) hgy hgQ).trans hSz.2.2.2⟩
        have z0 : w2.cell? ⟨wb, 0, none⟩ = some (.int .u64 0) := (hF'.cell (a := ⟨wb, 0, none⟩) (unhide hzl).2.1 hwQ).trans (unhide hzc).1
        have z1 : w2.cell? ⟨wb, 1, none⟩ = some (.string ⟨#[]⟩) := (hF'.cell (a := ⟨wb, 1, none⟩) (unhide hzl).2.1 hwQ).trans (unhide hzc).2.1
        have z2 : w2.cell? ⟨wb, 2, none⟩ = some (.int .i64 0) := (hF'.cell (a := ⟨wb, 2, none⟩) (unhide hzl).2.1 hwQ).trans (unhide hzc).2.2
        have f0 : w2.frozen? ⟨wb, 0, none⟩ = false := (hF'.frozen (a := ⟨wb, 0, none⟩) (unhide hzl).2.1 hwQ).trans (unhide hzf 0)
        have f1 : w2.frozen? ⟨wb, 1, none⟩ = false := (hF'.frozen (a := ⟨wb, 1, none⟩) (unhide hzl).2.1 hwQ).trans (unhide hzf 1)
        have f2 : w2.frozen? ⟨wb, 2, none⟩ = false := (hF'.frozen (a := ⟨wb, 2, none⟩) (unhide hzl).2.1 hwQ).trans (unhide hzf 2)
        have hwb2 : Hid (wb < w2.heap.size ∧ gb < w2.heap.size) := ⟨Nat.lt_of_lt_of_le (unhide hzl).2.1 hF'.size, Nat.lt_of_lt_of_le hgy hF'.size⟩
        have Hdr := hide hdr
        clear hRf hF hF' hgQ hwQ hdr hgy
        go_simp
        refine hK.out _ _ hS2 (fun _ => ?_)
        clear hK K
        refine wpAnyH_ready (rs := [6]) (by kernel_rfl) (by simp) ?_
        refine AllReadyH.cons (o := _) rfl (fun K hK => ?_) AllReadyH.nil
        go_simp
        have hst3 := stored3 w2 wb (.int .u64 x) (.string s) (.int .i64 nn) z0 z1 z2
        have hS3 : (fun wx => wx.cell? ⟨bx, 1, none⟩ = some (.pointer (some ⟨Q 1, 0, none⟩)) ∧ wx.cell? ⟨gb, 0, none⟩ = some (.int .i64 on) ∧ wx.cell? ⟨gb, 1, none⟩ = some (.int .i64 kind) ∧ wx.cell? ⟨gb, 2, none⟩ = some (.int .i64 n)) (((w2.setCell ⟨wb, 0, none⟩ (.int .u64 x)).setCell ⟨wb, 1, none⟩ (.string s)).setCell ⟨wb, 2, none⟩ (.int .i64 nn)) := by
          have hbw : bx ≠ wb := fun q => by have := (unhide hzl).2.2.2; omega
          have hgw : gb ≠ wb := fun q => by have := (unhide hzl).2.2.1; omega
          exact ⟨(hst3.1.cell (a := ⟨bx, 1, none⟩) (by have := (unhide hc).bl.2; have := (unhide hx2).fr; show bx < _; omega) hbw).trans hS2.1, (hst3.1.cell (a := ⟨gb, 0, none⟩) (unhide hwb2).2 hgw).trans hS2.2.1, (hst3.1.cell (a := ⟨gb, 1, none⟩) (unhide hwb2).2 hgw).trans hS2.2.2.1, (hst3.1.cell (a := ⟨gb, 2, none⟩) (unhide hwb2).2 hgw).trans hS2.2.2.2⟩
        refine hK.out _ _ hS3 (fun _ => ?_)
        clear hK K
        refine wpAnyH_done (by kernel_rfl) ?_ _
        have hx3 := hide ((unhide hx2).keep (unhide hc) hst3.1 (fun b hb q => by have := (unhide hzl).1; omega) (fun b hb q => by
          have h1 := ((unhide hxz).tow.lt b hb).2
          have h2 := ((unhide hxd).tow.lt b hb).2
          have h3 := unhide hdw
          omega) (fun j b hj hb q => by
          have h2 := ((unhide hxd).rowl hj hb).2
          have h3 := unhide hdw
          omega) (unhide hwW))
        obtain ⟨_, g0, g1, g2⟩ := hS3
        have hg3 : Hid (gb < (((w2.setCell ⟨wb, 0, none⟩ (.int .u64 x)).setCell ⟨wb, 1, none⟩ (.string s)).setCell ⟨wb, 2, none⟩ (.int .i64 nn)).heap.size) := Nat.lt_of_lt_of_le (unhide hwb2).2 hst3.1.size
        have hwb0 := hide hst3.2
        have hwbl : Hid (W.heap.size ≤ wb ∧ wb < (((w2.setCell ⟨wb, 0, none⟩ (.int .u64 x)).setCell ⟨wb, 1, none⟩ (.string s)).setCell ⟨wb, 2, none⟩ (.int .i64 nn)).heap.size) := ⟨(unhide hzl).1, Nat.lt_of_lt_of_le (unhide hwb2).1 hst3.1.size⟩
        clear hS2 hHeld hx2 hCr hst3 z0 z1 z2 f0 f1 f2 hSz hxz
        go_simp
        generalize (((w2.setCell ⟨wb, 0, none⟩ (.int .u64 x)).setCell ⟨wb, 1, none⟩ (.string s)).setCell ⟨wb, 2, none⟩ (.int .i64 nn)) = w3 at *
        go_wp2_with fail
        refine (unhide hCg _ _ ((unhide hx3).rd 1 (by omega)) (Nat.lt_of_lt_of_le ((unhide hc).rbl 1 (by omega)) (unhide hx3).fr)).mono ?_
        rintro e w4 ⟨l, ⟨he, v2, hRd, hF⟩, hLk⟩
        unfold GotV at he
        subst he
        have hF' : Fr (fun b => b = R 1) w3 w4 := hF
        have hx4 := hide ((unhide hx3).got (unhide hc) (k := 1) (by omega) hRd hF)
        have hgR : gb ≠ R 1 := fun q => by have := (unhide hgbl).1; have := ((unhide hc).rl 1 (by omega)).2; omega
        have hwR : wb ≠ R 1 := fun q => by have := (unhide hwbl).1; have := ((unhide hc).rl 1 (by omega)).2; omega
        have g0' : w4.cell? ⟨gb, 0, none⟩ = some (.int .i64 on) := (hF'.cell (a := ⟨gb, 0, none⟩) (unhide hg3) hgR).trans g0
        have g1' : w4.cell? ⟨gb, 1, none⟩ = some (.int .i64 kind) := (hF'.cell (a := ⟨gb, 1, none⟩) (unhide hg3) hgR).trans g1
        have q0 : w4.cell? ⟨wb, 0, none⟩ = some (.int .u64 x) := (hF'.cell (a := ⟨wb, 0, none⟩) (unhide hwbl).2 hwR).trans (unhide hwb0).1
        have q1 : w4.cell? ⟨wb, 1, none⟩ = some (.string s) := (hF'.cell (a := ⟨wb, 1, none⟩) (unhide hwbl).2 hwR).trans (unhide hwb0).2.1
        have q2 : w4.cell? ⟨wb, 2, none⟩ = some (.int .i64 nn) := (hF'.cell (a := ⟨wb, 2, none⟩) (unhide hwbl).2 hwR).trans (unhide hwb0).2.2
        have hg4 : gb < w4.heap.size := Nat.lt_of_lt_of_le (unhide hg3) hF'.size
        have hw4 : wb < w4.heap.size := Nat.lt_of_lt_of_le (unhide hwbl).2 hF'.size
        have hlo : ∃ xs : List Int, xs.length ≤ (bs 1).length ∧ w4.ownsRow (w3.heap.size + 2) 5 1 l xs.length (xs.map By) := by
          rcases hLk with rfl | ⟨_, xs, h1, h2⟩
          · exact ⟨[], Nat.zero_le _, World.ownsRow_nil _ _ _ _⟩
          · exact ⟨xs, h1, h2⟩
        obtain ⟨xs, hxl, hlo⟩ := hlo
        obtain ⟨la, lc, hls⟩ := row_shape hlo
        subst hls
        have hs3 : W.heap.size ≤ w3.heap.size := (unhide hx3).fr
        have hlW : Hid (w4.ownsRow W.heap.size 5 1 (.slice la xs.length lc) xs.length (xs.map By)) := own_mono hlo (by omega)
        have hlr : Hid (∀ j b, j < vs.length → (vs.getD j (.slice none 0 0)).ownBlock = some b → (Value.slice la xs.length lc).ownBlock ≠ some b) := fun j b hj hb q => by
          have h1 := ((unhide hx3).rowl hj hb).2
          have h2 := (hlo.lt b q).1
          omega
        have hlt : Hid (∀ b, u10.ownBlock = some b → (Value.slice la xs.length lc).ownBlock ≠ some b) := fun b hb q => by
          have h1 := ((unhide hx3).tow.lt b hb).2
          have h2 := (hlo.lt b q).1
          omega
        obtain ⟨ll, hll⟩ : ∃ ll, Hid (xs.length = ll) := ⟨_, rfl⟩
        have Hxl := hide hxl
        have hstate : Hid (∀ k, k < 2 → (B k).drop (updF pl 1 pl' k) = updF bs 1 left k ∧ BOk (updF bs 1 left k) ∧ (updF bs 1 left k).length + 4096 ≤ 140737488355328) := fun k hk => by
          by_cases q : k = 1
          · subst q
            rw [updF_at, updF_at]
            have h1 := (unhide hbs 1 (by omega)).2.2
            have h2 := (unhide hleft).2
            exact ⟨unhide Hdr, (unhide hleft).1, by omega⟩
          · rw [updF_ne _ _ q, updF_ne _ _ q]
            exact unhide hbs k hk
        have hnsx : Hid (xs.length + 4096 ≤ 140737488355328) := by have h1 := (unhide hbs 1 (by omega)).2.2; unfold Hid; omega
        have heq : updF e 1 e1 = updF e 1 e1 := rfl
        have hlo2 := hide hlo
        have hs3' := hide hs3
        clear hRd hF hF' hgR hwR hLk hlo hxl hs3 g0 g1 g2 hx3 hCg hwb0 heq
        generalize updF bs 1 left = bs2 at *
        generalize updF pl 1 pl' = pl2 at *
        generalize updF U 1 v2 = U2 at *
        generalize updF e 1 e1 = e2 at *
        rw [unhide hll]
        rw [unhide hll] at hlr hlt
        have hlg : Hid (∀ b, (Value.slice la ll lc).ownBlock = some b → gb < b ∧ W.heap.size ≤ b ∧ b < w4.heap.size) := fun b q => by
          have h2 := (unhide hlo2).lt b (by rw [unhide hll]; exact q)
          have h3 := unhide hg3
          exact ⟨by omega, by have := unhide hs3'; omega, h2.2⟩
        have hx5 := hide ((unhide hx4).below (unhide hc) ((Below.refl _ _).alloc (Nat.le_refl _) (.cells #[.int .u64 x, .string s, .int .i64 nn] 59)) (unhide hwW))
        have hl5 : Hid ((w4.alloc (.cells #[.int .u64 x, .string s, .int .i64 nn] 59)).ownsRow W.heap.size 5 1 (.slice la ll lc) xs.length (xs.map By)) := by
          have h := (unhide hlW).alloc (.cells #[.int .u64 x, .string s, .int .i64 nn] 59)
          rw [unhide hll] at h
          rw [Hid, unhide hll]
          exact h
        clear hx4 hlW
        by_cases hk5 : kind = 5
        · subst hk5
          by_cases hon : 2 ≤ on
          · have hon2 : ¬ on < 2 := by omega
            have hAp := hide (apart_one (w4.alloc (.cells #[.int .u64 x, .string s, .int .i64 nn] 59)) W.heap.size (.slice la ll lc) xs (unhide hl5) (by have := unhide hnsx; omega) (unhide hx5).fr)
            go_wp2_with fail
            have hsz5 : (w4.alloc (.cells #[.int .u64 x, .string s, .int .i64 nn] 59)).heap.size = w4.heap.size + 1 := by simp
            rw [hsz5] at hAp
            refine (unhide hAp).mono ?_
            rintro e' w7 ⟨rfl, hF7⟩
            have hx6 := (unhide hx5).below (unhide hc) ((Below.refl _ _).alloc (Nat.le_refl _) (.cells #[.slice la ll lc] 22)) (unhide hwW)
            have hx7 := hide (hx6.keep (unhide hc) hF7 (fun b hb q => by have := (unhide hlg b q).2.1; omega) (fun b hb q => unhide hlt b hb q) (fun j b hj hb q => unhide hlr j b hj hb q) (unhide hwW))
            have hgs : ∀ i, w7.cell? ⟨gb, i, none⟩ = ((w4.alloc (.cells #[.int .u64 x, .string s, .int .i64 nn] 59)).alloc (.cells #[.slice la ll lc] 22)).cell? ⟨gb, i, none⟩ := fun i => hF7.cell (a := ⟨gb, i, none⟩) (by simp; omega) (fun q => by have := (unhide hlg gb q).1; omega)
            have g0'' : w7.cell? ⟨gb, 0, none⟩ = some (.int .i64 on) := (hgs 0).trans (by rw [World.cell?_of_block (a := ⟨gb, 0, none⟩) (Below.heap_alloc _ _ _ (by simp; omega)), World.cell?_of_block (a := ⟨gb, 0, none⟩) (Below.heap_alloc _ _ _ hg4)]; exact g0')
            have g1'' : w7.cell? ⟨gb, 1, none⟩ = some (.int .i64 5) := (hgs 1).trans (by rw [World.cell?_of_block (a := ⟨gb, 1, none⟩) (Below.heap_alloc _ _ _ (by simp; omega)), World.cell?_of_block (a := ⟨gb, 1, none⟩) (Below.heap_alloc _ _ _ hg4)]; exact g1')
            clear hAp hF7 hx6 hgs hx5 hl5 hsz5
            go_wp2
            go_roundg (gk - 1)
            case measure => have := unhide hj; omega
            case rel => exact ⟨j + 1, U2, bs2, pl2, e2, vs, ns, by have := unhide hj; unfold Hid; omega, by go_num, hstate, ⟨by have := (unhide hvs).1; omega, (unhide hvs).2⟩, hx7⟩
          · have hon2 : on < 2 := by omega
            have HO := hide (unhide hx5).tow
            have hvl : vs.length ≤ j := (unhide hvs).1
            have hfrz : W.heap.size ≤ w4.heap.size + 1 := by have := (unhide hx5).fr; simp at this; omega
            go_wp2_with (first | (at_builtin; refine wpList_append_own_at _ rfl _ _ 66 rfl W.heap.size 22 i0 (.slice none 0 0) 1 24 Try.underlying66 hi0 hz0 hz1 hz2 rfl (by decide) _ _ _ rfl ((unhide HO).alloc _) ⟨w4.heap.size + 1, 0, none⟩ 1 1 [.slice la ll lc] rfl rfl (cell_one_at _ _ _ _ (by simp)) (by simp [Value.oneCell']) (by unfold maxLen; omega) (by omega) (by simp; omega) ?_))
            intro v' w7 hown' hgrow hnil hat
            have hx7 := hide ((unhide hx5).pushed (unhide hc) (l := .slice la ll lc) (xs := xs) (unhide hl5) (unhide hlr) (unhide hlt) hown' hgrow (by simpa using hat) (unhide hwW))
            have hns7 : Hid (∀ i, updF ns vs.length xs.length i + 4096 ≤ 140737488355328) := fun i => by
              by_cases q : i = vs.length
              · subst q; rw [updF_at]; exact unhide hnsx
              · rw [updF_ne _ _ q]; exact (unhide hvs).2 i
            clear hown' hgrow hnil hat hx5 hl5 HO
            go_wp2
            go_roundg (gk - 1)
            case measure => have := unhide hj; omega
            case rel => exact ⟨j + 1, U2, bs2, pl2, e2, vs ++ [.slice la ll lc], _, by have := unhide hj; unfold Hid; omega, by go_num, hstate, ⟨by rw [List.length_append]; show vs.length + 1 ≤ _; omega, unhide hns7⟩, hx7⟩
        · have hk5' : (kind == 5) = false := by rw [beq_eq_false_iff_ne]; exact hk5
          go_wp2
          go_roundg (gk - 1)
          case measure => have := unhide hj; omega
          case rel => exact ⟨j + 1, U2, bs2, pl2, e2, vs, ns, by have := unhide hj; unfold Hid; omega, by go_num, hstate, ⟨by have := (unhide hvs).1; omega, (unhide hvs).2⟩, hx5⟩
    · have hjM : M = j := by have := unhide hj; omega
      have i1' : ¬ (j : Int) < (M : Int) := by omega
      have hSW : Hid (∀ b, b < W.heap.size → ¬ ∃ j, j < vs.length ∧ (vs.getD j (.slice none 0 0)).ownBlock = some b) := fun b hb ⟨j, hj, q⟩ => by
        have := ((unhide hS).rowl hj q).1
        omega
      have hRV : RdV wr u10 vs := by
        have ht := (unhide hS).tow
        rcases ht.2 with ⟨q1, q2⟩ | ⟨g, cap, cu, q1, _⟩
        · exact ⟨none, 0, by rw [q1, q2], fun i hi => by omega⟩
        · refine ⟨some ⟨g, 0, none⟩, cap, q1, fun i hi => ⟨g, 0, rfl, (ht.lt g (by rw [q1]; rfl)).2, ?_, fun k hk => (unhide hS).tap k g hk (by rw [q1]; rfl)⟩⟩
          have := ht.cells (g := g) (by rw [q1]; rfl) i (vs.getD i (.slice none 0 0)) (by rw [List.getD_eq_getElem?_getD, List.getElem?_eq_getElem hi]; rfl)
          rw [addr_add0] at this
          rw [Nat.zero_add]
          exact this
      have hMk : Mkd wr W.heap.size vs ns 0 0 wr := by
        obtain ⟨xss, h1, h2⟩ := (unhide hS).rows
        exact ⟨xss, h1, h2, fun k' hk' => by omega, fun i hi => by omega⟩
      have hAp := hide (apart_walk u10 vs ns W.heap.size wr hRV hMk (by have := (unhide hvs).1; omega) (fun k => by have := (unhide hvs).2 k; omega) (unhide hS).fr (fun i b hi q => ((unhide hS).rowl hi q).2))
      clear hRV hMk
      go_wp2_with fail
      refine (unhide hAp).mono ?_
      rintro e' w2 ⟨rfl, hF2⟩
      have hrd2 : Hid (∀ k, k < 2 → Rdr w2 (R k) (RB k) (U k) ((B k).drop (pl k)) (e k)) := fun k hk => by
        rw [(unhide hbs k hk).1]
        exact ((unhide hS).rd k hk).keep hF2 (unhide hSW _ ((unhide hc).rl k hk).2) (fun b off len cap q => unhide hSW b (by rw [((unhide hS).rd k hk).ap b off len cap q]; exact (unhide hc).rbl k hk))
      have hrf2 : Hid (∀ k, k < 2 → RefR w2 (Q k) (QB k) (V k) (B k) (pl k) (e k)) := fun k hk =>
        ((unhide hS).rf k hk).keep hF2 (unhide hSW _ ((unhide hc).ql k hk).2) (fun b off len cap q => unhide hSW b (by rw [((unhide hS).rf k hk).ap b off len cap q]; exact (unhide hc).qbl k hk))
      have hbx2 : ∀ k, k < 2 → w2.cell? ⟨bx, k, none⟩ = some (.pointer (some ⟨Q k, 0, none⟩)) := fun k hk => (hF2.cell (a := ⟨bx, k, none⟩) (by have := (unhide hc).bl.2; have := (unhide hS).fr; show bx < _; omega) (unhide hSW _ (unhide hc).bl.2)).trans ((unhide hS).bxc k hk)
      have c0 := hbx2 0 (by omega)
      have c1 := hide (hbx2 1 (by omega))
      have hbel2 : Hid (Below w.heap.size w w2) := (unhide hS).bel.trans (hF2.below (unhide hS).bel.size (fun b hb => unhide hSW b (by have := unhide hwW; omega)))
      have hC0 := hide (closes_any (R 0) (U 0) (Q 0) (V 0) (B 0) (pl 0) (e 0) w2 (unhide hrd2 0 (by omega)) (unhide hrf2 0 (by omega)) (by have := (unhide hBB 0 (by omega)).2; omega))
      clear hAp hF2 hbx2 hS
      go_wp2_with fail
      refine (unhide hC0).mono ?_
      rintro e' w3 ⟨rfl, m3, hw3⟩
      subst hw3
      have c1' : (w2.drewN m3).cell? ⟨bx, 1, none⟩ = some (.pointer (some ⟨Q 1, 0, none⟩)) := ((Fr.drewN (S := fun _ => False) (w := w2) m3).cell (a := ⟨bx, 1, none⟩) (World.block_lt_of_cell? _ _ (unhide c1)) (fun h => h)).trans (unhide c1)
      have hC1' := hide (closes_any (R 1) (U 1) (Q 1) (V 1) (B 1) (pl 1) (e 1) (w2.drewN m3) ((unhide hrd2 1 (by omega)).drewN m3) ((unhide hrf2 1 (by omega)).drewN m3) (by have := (unhide hBB 1 (by omega)).2; omega))
      have hbel3 : Hid (∀ m, Below w.heap.size w (w2.drewN m)) := fun m => (unhide hbel2).trans ((Fr.drewN (S := fun _ => False) (w := w2) m).below (unhide hbel2).size (fun _ _ h => h))
      clear hC0 c0
      go_wp2_with fail
      refine (unhide hC1').mono ?_
      rintro e' w4 ⟨rfl, m4, hw4⟩
      subst hw4
      go_wp2
      go_ret
      exact ⟨rfl, unhide hbel3 (m3 + m4)⟩
end Go.Proofs.Ytnfinplkeefdgaa
