/-
  Every script of calls of two writers.
-/
import Derived.Test.YtpenhefhedmhiaaEnds
import Derived.Deep.WholeRow
import Derived.Deep.RegionHeld3
namespace Go.Proofs.Ytpenhefhedmhiaa
open Go.RowKit

theorem updF_again {α : Type} (f : Nat → α) (k : Nat) (x y : α) : updF (updF f k x) k y = updF f k y := by
  funext j
  unfold updF
  split <;> rfl

/-- One call of a script. -/
structure PutD where
  on : Int
  kind : Int
  x : Nat
  s : ByteArray
def PutD.zero : PutD := ⟨0, 0, 0, ⟨#[]⟩⟩
def RdP (w : World) (v : Value) (ps : List PutD) : Prop :=
  ∃ a cap, v = .slice a ps.length cap ∧ ∀ i, i < ps.length → ∃ b off, a = some ⟨b, off, none⟩ ∧ b < w.heap.size ∧ w.cell? ⟨b, off + i * 4, none⟩ = some (.int .i64 (ps.getD i PutD.zero).on) ∧
    w.cell? ⟨b, off + i * 4 + 1, none⟩ = some (.int .i64 (ps.getD i PutD.zero).kind) ∧ w.cell? ⟨b, off + i * 4 + 2, none⟩ = some (.int .u64 (ps.getD i PutD.zero).x) ∧ w.cell? ⟨b, off + i * 4 + 3, none⟩ = some (.string (ps.getD i PutD.zero).s)
/-- How much they can write at most. -/
def bulk (ps : List PutD) : Nat := (ps.map fun p => 10 + p.s.size).sum
theorem bulk_drop (ps : List PutD) (j : Nat) (h : j < ps.length) : bulk (ps.drop j) = 10 + (ps.getD j PutD.zero).s.size + bulk (ps.drop (j + 1)) := by
  rw [List.drop_eq_getElem_cons h, List.getD_eq_getElem?_getD, List.getElem?_eq_getElem h]
  unfold bulk
  rw [List.map_cons, List.sum_cons]
  rfl

/-- The call that is taken, in a box that is none of the others' blocks. -/
structure GB (V A : Nat → Value) (told : Value) (R : Nat → Value) (n : Nat) (P : Nat → Nat) (bx gb : Nat) (on kind : Int) (x : Nat) (s : ByteArray) (wr : World) : Prop where
  c0 : wr.cell? ⟨gb, 0, none⟩ = some (.int .i64 on)
  c1 : wr.cell? ⟨gb, 1, none⟩ = some (.int .i64 kind)
  c2 : wr.cell? ⟨gb, 2, none⟩ = some (.int .u64 (x : Int))
  c3 : wr.cell? ⟨gb, 3, none⟩ = some (.string s)
  lt : gb < wr.heap.size
  far : ∀ i, fam V A told R n i ≠ some gb
  pne : ∀ k, k < 2 → gb ≠ P k
  bne : gb ≠ bx
section
variable {w W wr w' : World} {P : Nat → Nat} {bx gb : Nat} {V A : Nat → Value} {bs cs : Nat → List Int} {told : Value} {m : Nat} {R : Nat → Value} {n : Nat} {xss : Nat → List Int} {on kind : Int} {x : Nat} {s : ByteArray}
theorem GB.keep (g : GB V A told R n P bx gb on kind x s wr) {S : Nat → Prop} (f : Fr S wr w') (hS : ¬ S gb) : GB V A told R n P bx gb on kind x s w' :=
  ⟨(f.cell (a := ⟨gb, 0, none⟩) g.lt hS).trans g.c0, (f.cell (a := ⟨gb, 1, none⟩) g.lt hS).trans g.c1, (f.cell (a := ⟨gb, 2, none⟩) g.lt hS).trans g.c2, (f.cell (a := ⟨gb, 3, none⟩) g.lt hS).trans g.c3, Nat.lt_of_lt_of_le g.lt f.size, g.far, g.pne, g.bne⟩
theorem GB.drewN (g : GB V A told R n P bx gb on kind x s wr) (k : Nat) : GB V A told R n P bx gb on kind x s (wr.drewN k) := g.keep (Fr.drewN (S := fun _ => False) k) (fun h => h)
theorem GB.wrote (g : GB V A told R n P bx gb on kind x s wr) {k : Nat} (hk : k < 2) {v' : Value} (t : WStep (P k) wr (V k) w' v') : GB (updF V k v') A told R n P bx gb on kind x s w' := by
  have g' := g.keep t.fr (fun q => by
    rcases q with q | q
    · exact g.pne k hk q
    · exact g.far k (by rw [fam_V hk]; exact q))
  refine ⟨g'.c0, g'.c1, g'.c2, g'.c3, g'.lt, fun i q => ?_, g.pne, g.bne⟩
  by_cases e : i = k
  · subst e
    rw [fam_V hk, updF_at] at q
    rcases t.row with r | r
    · exact g.far i (by rw [fam_V hk, ← r]; exact q)
    · have := r gb q
      have := g.lt
      omega
  · refine g.far i ?_
    rw [← q]
    unfold fam
    rw [updF_ne _ _ e]
theorem GB.new (h : WV w W P bx V A bs cs told m R n xss wr) (on kind : Int) (x : Nat) (s : ByteArray) : GB V A told R n P bx wr.heap.size on kind x s (wr.alloc (.cells #[.int .i64 on, .int .i64 kind, .int .u64 (x : Int), .string s] 29)) := by
  refine ⟨?_, ?_, ?_, ?_, by simp, fun i q => ?_, fun k hk q => ?_, fun q => ?_⟩
  · rw [cell_of_row _ _ 0 _ 29 (0, 0) (heap_alloc_last wr _)]; rfl
  · rw [cell_of_row _ _ 1 _ 29 (0, 0) (heap_alloc_last wr _)]; rfl
  · rw [cell_of_row _ _ 2 _ 29 (0, 0) (heap_alloc_last wr _)]; rfl
  · rw [cell_of_row _ _ 3 _ 29 (0, 0) (heap_alloc_last wr _)]; rfl
  · have := h.hi i _ q; omega
  · have := (h.pl k hk).2; have := h.fr; omega
  · have := h.bl.2; omega
end

/-- Ahead of the first call. -/
theorem wv_start {w w1 w2 : World} {P : Nat → Nat} (hb1 : Below w.heap.size w w1) (hb2 : Below w1.heap.size w1 w2) (h0 : Wtr w1 (P 0) (.slice none 0 0) []) (h1 : Wtr w2 (P 1) (.slice none 0 0) []) (p0 : w.heap.size = P 0) (p1 : w1.heap.size = P 1) :
    WV w (w2.alloc (.cells #[.slice none 0 0, .slice none 0 0] 35)) P w2.heap.size (fun _ => .slice none 0 0) (fun _ => .slice none 0 0) (fun _ => []) (fun _ => []) (.slice none 0 0) 0 (fun _ => .slice none 0 0) 0 (fun _ => []) (w2.alloc (.cells #[.slice none 0 0, .slice none 0 0] 35)) := by
  have hz : (w2.alloc (.cells #[.slice none 0 0, .slice none 0 0] 35)).heap.size = w2.heap.size + 1 := by simp
  have hc2 : ∀ k, k < 2 → k = 0 ∨ k = 1 := fun k hk => by omega
  have l0 := h0.lt
  have l1 := h1.lt
  have s2 := hb2.size
  have s1 := hb1.size
  have hfam : ∀ i, fam (fun _ => .slice none 0 0) (fun _ => .slice none 0 0) (.slice none 0 0) (fun _ => .slice none 0 0) 0 i = none := fun i => by
    unfold fam
    split
    · rfl
    · split
      · rfl
      · split
        · rfl
        · rw [if_neg (by omega)]
  have hbb : Below w.heap.size w w2 := hb1.trans (hb2.mono s1)
  refine ⟨fun k hk => ?_, fun k hk => World.ownsRow_nil _ _ _ _, fun k hk => ?_, fun k hk => ?_, World.ownsRow_nil _ _ _ _, Nat.le_refl _, fun j hj => (by omega), fun j => (by simp), fun i j b _ e => (by rw [hfam] at e; cases e), fun i b e => (by rw [hfam] at e; cases e), fun k hk => ?_, fun j k hj hk hn => ?_, fun k hk => ?_, ⟨hbb.size, by omega⟩, fun i e => (by rw [hfam] at e; cases e), hbb.alloc hbb.size _, Nat.le_refl _, by omega⟩
  · rcases hc2 k hk with rfl | rfl
    · exact (h0.keep (Fr.of_below (S := fun _ => False) hb2) (fun h => h) (fun _ _ h => h)).alloc _
    · exact h1.alloc _
  · rw [cell_of_row _ _ k _ 35 (0, 0) (heap_alloc_last w2 _)]
    rcases hc2 k hk with rfl | rfl <;> rfl
  · unfold World.frozen?
    rw [heap_alloc_last w2 _]
    simp
  · rcases hc2 k hk with rfl | rfl <;> omega
  · rcases hc2 j hj with rfl | rfl <;> rcases hc2 k hk with rfl | rfl <;> omega
  · rcases hc2 k hk with rfl | rfl <;> omega

set_option maxHeartbeats 6400000 in
set_option maxRecDepth 100000 in
theorem writesLaw (vg : Value) (ps : List PutD) (w : World) (hI : RdP w vg ps) (hok : ∀ p ∈ ps, p.x < 2 ^ 64) (hM : ps.length ≤ 1048576) (hbulk : bulk ps ≤ 16777216) :
    Calls Try.prog 6 #[vg] w fun e w' => e = .returned (.bool true) ∧ Below w.heap.size w w' := by
  obtain ⟨i0, hi0, hz0, hz1, hz2⟩ := info_parts Try.info25
  obtain ⟨ga, gcap, rfl, hgets⟩ := hI
  have HGT := hide hgets
  have HOK := hide hok
  have HBU := hide hbulk
  obtain ⟨M, hMM⟩ : ∃ M, Hid (ps.length = M) := ⟨_, rfl⟩
  rw [unhide hMM] at hM ⊢
  clear hgets hok hbulk
  have hC1 := hide (newWriter_any w w.heap.size rfl)
  go_enter Try.func6, Try.ntmps6
  go_wp2_with fail
  refine (unhide hC1).mono ?_
  rintro e w1 ⟨rfl, hW1, hb1, hl1⟩
  have hC2 := hide (newWriter_any w1 w1.heap.size rfl)
  have HW1 := hide hW1
  have HB1 := hide hb1
  obtain ⟨q0, hq0⟩ : ∃ q, Hid (w.heap.size = q) := ⟨_, rfl⟩
  rw [unhide hq0] at HW1 HB1 ⊢
  clear hC1 hW1 hb1 hl1
  go_wp2_with fail
  refine (unhide hC2).mono ?_
  rintro e w2 ⟨rfl, hW2, hb2, hl2⟩
  obtain ⟨q1, hq1⟩ : ∃ q, Hid (w1.heap.size = q) := ⟨_, rfl⟩
  obtain ⟨P, hPa, hPb⟩ : ∃ P : Nat → Nat, P 0 = q0 ∧ P 1 = q1 := ⟨fun k => if k = 0 then q0 else q1, rfl, rfl⟩
  subst hPa hPb
  have hst := hide (wv_start (P := P) (by rw [unhide hq0]; exact unhide HB1) hb2 (unhide HW1) (by rw [← unhide hq1]; exact hW2) (unhide hq0) (unhide hq1))
  rw [unhide hq1]
  clear hC2 hW2 hb2 hl2 HW1 HB1 hq1
  go_wp2
  obtain ⟨W, hWW⟩ : ∃ W, Hid (W = w2.alloc (.cells #[.slice none 0 0, .slice none 0 0] 35)) := ⟨_, rfl⟩
  rw [← unhide hWW] at hst ⊢
  obtain ⟨bx, hbx⟩ : ∃ bx, Hid (w2.heap.size = bx) := ⟨_, rfl⟩
  rw [unhide hbx] at hst
  try rw [unhide hbx]
  clear hWW hbx hq0
  go_loopg [6, 7] M (fun k s6 s7 wr => ∃ (j : Nat) (V A : Nat → Value) (bs : Nat → List Int) (R : Nat → Value) (n : Nat) (xss : Nat → List Int), Hid (j + k = M) ∧ s7 = .int .i64 (j : Int) ∧ Hid (n ≤ j ∧ (bs 0).length + (bs 1).length + bulk (ps.drop j) ≤ 16777216) ∧ Hid (WV w W P bx V A bs bs s6 n R n xss wr))
  case atStart => exact ⟨0, _, _, _, _, 0, _, by unfold Hid; omega, rfl, ⟨Nat.le_refl _, by have := unhide HBU; simpa using this⟩, hst⟩
  case round =>
    obtain ⟨j, V, A, bs, R, n, xss, hj, rfl, hnl, hS⟩ := hrel
    by_cases hlt : j < M
    · obtain ⟨cb, co, rfl, hcb, hc0, hc1, hc2, hc3⟩ := unhide HGT j (by rw [unhide hMM]; exact hlt)
      have hc0 := ((unhide hS).bel.cell (p := ⟨cb, co + j * 4, none⟩) hcb).trans hc0
      have hc1 := ((unhide hS).bel.cell (p := ⟨cb, co + j * 4 + 1, none⟩) hcb).trans hc1
      have hc2 := ((unhide hS).bel.cell (p := ⟨cb, co + j * 4 + 2, none⟩) hcb).trans hc2
      have hc3 := ((unhide hS).bel.cell (p := ⟨cb, co + j * 4 + 3, none⟩) hcb).trans hc3
      have hx64 : (ps.getD j PutD.zero).x < 2 ^ 64 := by
        refine unhide HOK _ ?_
        rw [List.getD_eq_getElem?_getD, List.getElem?_eq_getElem (by rw [unhide hMM]; exact hlt)]
        exact List.getElem_mem _
      have hbd := bulk_drop ps j (by rw [unhide hMM]; exact hlt)
      have i0' : (0 : Int) ≤ (j : Int) := by omega
      have i1' : (j : Int) < (M : Int) := by omega
      generalize ps.getD j PutD.zero = gg at hx64 hbd hc0 hc1 hc2 hc3
      obtain ⟨on, kind, x, s⟩ := gg
      dsimp only at hx64 hbd hc0 hc1 hc2 hc3
      have hnj : Hid (n ≤ j ∧ j < M ∧ M ≤ 1048576) := ⟨(unhide hnl).1, hlt, hM⟩
      have hlen : Hid ((bs 0).length + (bs 1).length + (10 + s.size + bulk (ps.drop (j + 1))) ≤ 16777216) := by rw [← hbd]; exact (unhide hnl).2
      clear hbd hnl
      go_wp2_with fail
      refine (pick_any on _).mono ?_
      rintro e' wz ⟨rfl, hwz⟩
      subst hwz
      have hmod : on % 2 = 0 ∨ on % 2 = 1 := by omega
      clear hc0 hc1 hc2 hc3
      rcases hmod with hkk0 | hkk0
      · have hkk : pick2 on = 0 := by unfold pick2; omega
        rw [hkk]
        have hx1 := hide ((unhide hS).alloc (.cells #[.int .i64 on, .int .i64 kind, .int .u64 (x : Int), .string s] 29))
        have hg1 := hide (GB.new (unhide hS) on kind x s)
        clear hS
        generalize (wr.alloc (.cells #[.int .i64 on, .int .i64 kind, .int .u64 (x : Int), .string s] 29)) = wa at *
        generalize wr.heap.size = gb at *
        by_cases k5 : kind = 5
        · subst k5
          have hC1 := hide (rawCall_any (P 0) (V 0) (bs 0) s wa ((unhide hx1).wt 0 (by omega)) (by have := unhide hlen; omega))
          have g1 := (unhide hg1).c1
          have g3 := (unhide hg1).c3
          go_wp2_with fail
          refine (unhide hC1).mono ?_
          rintro e' w2 ⟨rfl, v2, hW2, hT2⟩
          have hx2 := hide ((unhide hx1).wrote (k := 0) (by omega) hW2 hT2)
          have hg2 := hide ((unhide hg1).wrote (k := 0) (by omega) hT2)
          clear hC1 hW2 hT2 g1 g3 hx1 hg1
          have hbw : Hid ((updF bs 0 (bs 0 ++ strI s) 0).length + 10 + s.size ≤ 140737488355328) := by
            have := unhide hlen
            rw [Hid, updF_at, List.length_append, strI_length]
            omega
          have hpre : Hid (updF (updF bs 0 (bs 0 ++ strI s)) 0 (updF bs 0 (bs 0 ++ strI s) 0 ++ pform 5 x s) = updF bs 0 (bs 0 ++ rform 5 x s)) := by
            rw [Hid, updF_at, show pform 5 x s = [] from rfl, show rform 5 x s = strI s from rfl, List.append_nil]
            exact updF_again _ _ _ _
          have g1 := (unhide hg2).c1
          go_wp2
          go_quiet (fail)
          have hx3 := hide ((unhide hx2).drewN nq)
          have hg3 := hide ((unhide hg2).drewN nq)
          clear g1 hx2 hg2
          generalize w2.drewN nq = w3 at *
          generalize updF bs 0 (bs 0 ++ strI s) = bsW at *
          generalize updF V 0 v2 = V3 at *
          have hC2 := put_any (P 0) (V3 0) (bsW 0) on 5 x s w3 ((unhide hx3).wt 0 (by omega)) (by have := unhide hbw; have := unhide hlen; omega) hx64
          unfold PutV at hC2
          have hC2 := hide hC2
          have g0 := (unhide hg3).c0
          have g1 := (unhide hg3).c1
          have g2 := (unhide hg3).c2
          have g3 := (unhide hg3).c3
          go_wp2_with fail
          refine (unhide hC2).mono ?_
          rintro e' w4 ⟨rfl, v4, hW4, hT4⟩
          have hx4 := hide ((unhide hx3).wrote (k := 0) (by omega) hW4 hT4)
          have hg4 := hide ((unhide hg3).wrote (k := 0) (by omega) hT4)
          clear hC2 hW4 hT4 g0 g1 g2 g3 hx3 hg3
          have hbe : Hid (updF bsW 0 (bsW 0 ++ pform 5 x s) = updF bs 0 (bs 0 ++ rform 5 x s)) := unhide hpre
          rw [unhide hbe] at hx4
          generalize updF V3 0 v4 = V4 at *
          have hxd := hide ((unhide hx4).below ((Below.refl _ _).drew))
          have hgd := hide ((unhide hg4).drewN 1)
          have hSd : (fun wx => wx.cell? ⟨gb, 0, none⟩ = some (.int .i64 on) ∧ wx.cell? ⟨gb, 1, none⟩ = some (.int .i64 5) ∧ wx.cell? ⟨gb, 2, none⟩ = some (.int .u64 (x : Int)) ∧ wx.cell? ⟨gb, 3, none⟩ = some (.string s)) w4.drew := ⟨(unhide hgd).c0, (unhide hgd).c1, (unhide hgd).c2, (unhide hgd).c3⟩
          have hgd : Hid (GB V4 A u6 R n P bx gb on 5 x s w4.drew) := hgd
          clear hx4 hg4 hbe
          go_wp2_with fail
          refine wp_region_held_drew (S := fun wx => wx.cell? ⟨gb, 0, none⟩ = some (.int .i64 on) ∧ wx.cell? ⟨gb, 1, none⟩ = some (.int .i64 5) ∧ wx.cell? ⟨gb, 2, none⟩ = some (.int .u64 (x : Int)) ∧ wx.cell? ⟨gb, 3, none⟩ = some (.string s)) (by kernel_rfl) hSd (fun hHeld => ?_)
          clear hSd
          generalize w4.drew = wd at *
          have hCr := putRef_any W.heap.size (A 0) (bs 0) on 5 x s wd ((unhide hxd).al 0 (by omega)) (unhide hxd).fr (by have := unhide hlen; omega) hx64
          unfold PutV at hCr
          have hCr := hide hCr
          refine wpAnyH_take (i := 0) (oi := _) (v := .int .i64 0) rfl (by kernel_rfl) (by kernel_rfl) (by kernel_rfl) (fun _ _ _ h => h) (Or.inl ⟨by rfl, (by intro w hSw; go_simp)⟩) (by assumption) ?_
          refine wpAnyH_take (i := 1) (oi := _) (v := .int .i64 0) rfl (by kernel_rfl) (by kernel_rfl) (by kernel_rfl) (fun _ _ _ h => h) (Or.inl ⟨by rfl, (by intro w hSw; go_simp)⟩) (by assumption) ?_
          refine wpAnyH_take (i := 2) (oi := _) (v := .pointer (some ⟨bx, 0, none⟩)) rfl (by kernel_rfl) (by kernel_rfl) (by kernel_rfl) (fun _ _ _ h => h) (Or.inl ⟨by rfl, (by intro w hSw; go_simp)⟩) (by assumption) ?_
          go_simp
          refine wpAnyH_take (i := 4) (oi := _) (v := .agg #[.int .i64 on, .int .i64 5, .int .u64 (x : Int), .string s]) rfl (by kernel_rfl) (by kernel_rfl) (by kernel_rfl) (fun _ _ _ h => h) (Or.inl ⟨by rfl, (by intro w hSw; obtain ⟨g0, g1, g2, g3⟩ := hSw; go_simp)⟩) (by assumption) ?_
          go_simp
          refine wpAnyH_ready (rs := [3]) (by kernel_rfl) (by simp) ?_
          refine AllReadyH.cons (o := _) rfl (fun K hK => ?_) AllReadyH.nil
          have hcq := (unhide hxd).bxc 0 (by omega)
          go_simp
          refine hK.out _ _ hHeld (fun _ => ?_)
          clear hK K hcq
          refine wpAnyH_ready (rs := [5]) (by kernel_rfl) (by simp) ?_
          refine AllReadyH.cons (o := _) rfl (fun K hK => ?_) AllReadyH.nil
          go_simp
          refine (unhide hCr).mono ?_
          rintro e' w5 ⟨l5, rfl, hRG⟩
          obtain ⟨la, lc, hl5⟩ := row_shape hRG.own
          obtain ⟨ll, hll⟩ : ∃ ll, Hid ((bs 0 ++ rform 5 x s).length = ll) := ⟨_, rfl⟩
          rw [unhide hll] at hl5
          subst hl5
          have hgA : ¬ (A 0).ownBlock = some gb := fun q => (unhide hgd).far (0 + 2) (by rw [fam_A (by omega)]; exact q)
          have hbA : ¬ (A 0).ownBlock = some bx := fun q => (unhide hxd).ba (0 + 2) (by rw [fam_A (by omega)]; exact q)
          have hg5 : ∀ i, w5.cell? ⟨gb, i, none⟩ = wd.cell? ⟨gb, i, none⟩ := fun i => hRG.fr.cell (a := ⟨gb, i, none⟩) (unhide hgd).lt hgA
          have hS5 : (fun wx => wx.cell? ⟨gb, 0, none⟩ = some (.int .i64 on) ∧ wx.cell? ⟨gb, 1, none⟩ = some (.int .i64 5) ∧ wx.cell? ⟨gb, 2, none⟩ = some (.int .u64 (x : Int)) ∧ wx.cell? ⟨gb, 3, none⟩ = some (.string s)) w5 := ⟨(hg5 0).trans hHeld.1, (hg5 1).trans hHeld.2.1, (hg5 2).trans hHeld.2.2.1, (hg5 3).trans hHeld.2.2.2⟩
          have hq5 : w5.cell? ⟨bx, 0, none⟩ = some (A 0) := (hRG.fr.cell (a := ⟨bx, 0, none⟩) (unhide hxd).bl.2 hbA).trans ((unhide hxd).bxc 0 (by omega))
          have hf5 : w5.frozen? ⟨bx, 0, none⟩ = false := (hRG.fr.frozen (a := ⟨bx, 0, none⟩) (unhide hxd).bl.2 hbA).trans ((unhide hxd).bxf 0 (by omega))
          have hx6 := hide ((unhide hxd).grew (k := 0) (by omega) hRG)
          have hS6 : (fun wx => wx.cell? ⟨gb, 0, none⟩ = some (.int .i64 on) ∧ wx.cell? ⟨gb, 1, none⟩ = some (.int .i64 5) ∧ wx.cell? ⟨gb, 2, none⟩ = some (.int .u64 (x : Int)) ∧ wx.cell? ⟨gb, 3, none⟩ = some (.string s)) (w5.setCell ⟨bx, 0, none⟩ (.slice la ll lc)) := by
            have hne : ∀ i, (w5.setCell ⟨bx, 0, none⟩ (.slice la ll lc)).cell? ⟨gb, i, none⟩ = w5.cell? ⟨gb, i, none⟩ := fun i => World.cell?_setCell_other _ _ _ _ (fun e => (unhide hgd).bne (congrArg Addr.block e).symm)
            exact ⟨(hne 0).trans hS5.1, (hne 1).trans hS5.2.1, (hne 2).trans hS5.2.2.1, (hne 3).trans hS5.2.2.2⟩
          clear hCr hRG hgA hbA hg5 hxd
          go_simp
          refine hK.out _ _ hS5 (fun _ => ?_)
          clear hK K
          refine wpAnyH_take (i := 6) (oi := _) (v := .pointer (some ⟨bx, 0, none⟩)) rfl (by kernel_rfl) (by kernel_rfl) (by kernel_rfl) (fun _ _ _ h => h) (Or.inl ⟨by rfl, (by intro w hSw; go_simp)⟩) (by assumption) ?_
          go_simp
          refine wpAnyH_ready (rs := [7]) (by kernel_rfl) (by simp) ?_
          refine AllReadyH.cons (o := _) rfl (fun K hK => ?_) AllReadyH.nil
          go_simp
          refine hK.out _ _ hS6 (fun _ => ?_)
          clear hK K
          refine wpAnyH_done (by kernel_rfl) ?_ _
          have hlen6 : Hid ((updF bs 0 (bs 0 ++ rform 5 x s) 0).length + (updF bs 0 (bs 0 ++ rform 5 x s) 1).length + bulk (ps.drop (j + 1)) ≤ 16777216) := by
            have h1 := unhide hlen
            have h2 := rform_le 5 x s
            rw [Hid]
            unfold updF
            simp
            omega
          clear hHeld hS5 hS6 hq5 hf5 hgd hpre hll
          generalize updF bs 0 (bs 0 ++ rform 5 x s) = bs6 at *
          generalize updF A 0 (.slice la ll lc) = A6 at *
          go_simp
          go_wp2
          go_roundg (gk - 1)
          case measure => have := unhide hj; omega
          case rel => exact ⟨j + 1, V4, A6, bs6, R, n, xss, by have := unhide hj; unfold Hid; omega, by go_num, ⟨by have := (unhide hnj); omega, unhide hlen6⟩, hx6⟩
        · by_cases k6 : kind = 6
          · subst k6
            obtain ⟨aK, cK, hAK⟩ := row_shape ((unhide hx1).al 0 (by omega))
            obtain ⟨LK, hLK⟩ : ∃ L, Hid ((bs 0).length = L) := ⟨_, rfl⟩
            rw [unhide hLK] at hAK
            have K2 : Hid (∀ m, Calls Try.prog 14 #[.pointer (some ⟨P 0, 0, none⟩)] (wa.drewN m) fun e w' => e = .returned (.int .i64 (LK : Int)) ∧ w' = wa.drewN m) := fun m => by
              have h1 := wlen_any _ _ _ _ (((unhide hx1).wt 0 (by omega)).drewN m)
              rw [unhide hLK] at h1
              exact h1
            have cb := (unhide hx1).bxc 0 (by omega)
            rw [hAK] at cb
            clear hAK
            have hbw : Hid ((bs 0).length + 10 + s.size ≤ 140737488355328) := by have := unhide hlen; rw [Hid]; omega
            have hpre : Hid (updF bs 0 (bs 0 ++ pform 6 x s) = updF bs 0 (bs 0 ++ rform 6 x s)) := by
              rw [Hid, show rform 6 x s = pform 6 x s from if_neg (by decide)]
            have g1 := (unhide hg1).c1
            go_wp2
            go_quiet (first | (go_at_call 14; exact Calls.quiet_of_same (unhide K2 _)))
            have hx3 := hide ((unhide hx1).drewN nq)
            have hg3 := hide ((unhide hg1).drewN nq)
            clear g1 hx1 hg1
            generalize wa.drewN nq = w3 at *
            clear K2 hLK
            try clear cb
            have hC2 := put_any (P 0) (V 0) (bs 0) on 6 x s w3 ((unhide hx3).wt 0 (by omega)) (by have := unhide hbw; have := unhide hlen; omega) hx64
            unfold PutV at hC2
            have hC2 := hide hC2
            have g0 := (unhide hg3).c0
            have g1 := (unhide hg3).c1
            have g2 := (unhide hg3).c2
            have g3 := (unhide hg3).c3
            go_wp2_with fail
            refine (unhide hC2).mono ?_
            rintro e' w4 ⟨rfl, v4, hW4, hT4⟩
            have hx4 := hide ((unhide hx3).wrote (k := 0) (by omega) hW4 hT4)
            have hg4 := hide ((unhide hg3).wrote (k := 0) (by omega) hT4)
            clear hC2 hW4 hT4 g0 g1 g2 g3 hx3 hg3
            have hbe : Hid (updF bs 0 (bs 0 ++ pform 6 x s) = updF bs 0 (bs 0 ++ rform 6 x s)) := unhide hpre
            rw [unhide hbe] at hx4
            generalize updF V 0 v4 = V4 at *
            have hxd := hide ((unhide hx4).below ((Below.refl _ _).drew))
            have hgd := hide ((unhide hg4).drewN 1)
            have hSd : (fun wx => wx.cell? ⟨gb, 0, none⟩ = some (.int .i64 on) ∧ wx.cell? ⟨gb, 1, none⟩ = some (.int .i64 6) ∧ wx.cell? ⟨gb, 2, none⟩ = some (.int .u64 (x : Int)) ∧ wx.cell? ⟨gb, 3, none⟩ = some (.string s)) w4.drew := ⟨(unhide hgd).c0, (unhide hgd).c1, (unhide hgd).c2, (unhide hgd).c3⟩
            have hgd : Hid (GB V4 A u6 R n P bx gb on 6 x s w4.drew) := hgd
            clear hx4 hg4 hbe
            go_wp2_with fail
            refine wp_region_held_drew (S := fun wx => wx.cell? ⟨gb, 0, none⟩ = some (.int .i64 on) ∧ wx.cell? ⟨gb, 1, none⟩ = some (.int .i64 6) ∧ wx.cell? ⟨gb, 2, none⟩ = some (.int .u64 (x : Int)) ∧ wx.cell? ⟨gb, 3, none⟩ = some (.string s)) (by kernel_rfl) hSd (fun hHeld => ?_)
            clear hSd
            generalize w4.drew = wd at *
            have hCr := putRef_any W.heap.size (A 0) (bs 0) on 6 x s wd ((unhide hxd).al 0 (by omega)) (unhide hxd).fr (by have := unhide hlen; omega) hx64
            unfold PutV at hCr
            have hCr := hide hCr
            refine wpAnyH_take (i := 0) (oi := _) (v := .int .i64 0) rfl (by kernel_rfl) (by kernel_rfl) (by kernel_rfl) (fun _ _ _ h => h) (Or.inl ⟨by rfl, (by intro w hSw; go_simp)⟩) (by assumption) ?_
            refine wpAnyH_take (i := 1) (oi := _) (v := .int .i64 0) rfl (by kernel_rfl) (by kernel_rfl) (by kernel_rfl) (fun _ _ _ h => h) (Or.inl ⟨by rfl, (by intro w hSw; go_simp)⟩) (by assumption) ?_
            refine wpAnyH_take (i := 2) (oi := _) (v := .pointer (some ⟨bx, 0, none⟩)) rfl (by kernel_rfl) (by kernel_rfl) (by kernel_rfl) (fun _ _ _ h => h) (Or.inl ⟨by rfl, (by intro w hSw; go_simp)⟩) (by assumption) ?_
            go_simp
            refine wpAnyH_take (i := 4) (oi := _) (v := .agg #[.int .i64 on, .int .i64 6, .int .u64 (x : Int), .string s]) rfl (by kernel_rfl) (by kernel_rfl) (by kernel_rfl) (fun _ _ _ h => h) (Or.inl ⟨by rfl, (by intro w hSw; obtain ⟨g0, g1, g2, g3⟩ := hSw; go_simp)⟩) (by assumption) ?_
            go_simp
            refine wpAnyH_ready (rs := [3]) (by kernel_rfl) (by simp) ?_
            refine AllReadyH.cons (o := _) rfl (fun K hK => ?_) AllReadyH.nil
            have hcq := (unhide hxd).bxc 0 (by omega)
            go_simp
            refine hK.out _ _ hHeld (fun _ => ?_)
            clear hK K hcq
            refine wpAnyH_ready (rs := [5]) (by kernel_rfl) (by simp) ?_
            refine AllReadyH.cons (o := _) rfl (fun K hK => ?_) AllReadyH.nil
            go_simp
            refine (unhide hCr).mono ?_
            rintro e' w5 ⟨l5, rfl, hRG⟩
            obtain ⟨la, lc, hl5⟩ := row_shape hRG.own
            obtain ⟨ll, hll⟩ : ∃ ll, Hid ((bs 0 ++ rform 6 x s).length = ll) := ⟨_, rfl⟩
            rw [unhide hll] at hl5
            subst hl5
            have hgA : ¬ (A 0).ownBlock = some gb := fun q => (unhide hgd).far (0 + 2) (by rw [fam_A (by omega)]; exact q)
            have hbA : ¬ (A 0).ownBlock = some bx := fun q => (unhide hxd).ba (0 + 2) (by rw [fam_A (by omega)]; exact q)
            have hg5 : ∀ i, w5.cell? ⟨gb, i, none⟩ = wd.cell? ⟨gb, i, none⟩ := fun i => hRG.fr.cell (a := ⟨gb, i, none⟩) (unhide hgd).lt hgA
            have hS5 : (fun wx => wx.cell? ⟨gb, 0, none⟩ = some (.int .i64 on) ∧ wx.cell? ⟨gb, 1, none⟩ = some (.int .i64 6) ∧ wx.cell? ⟨gb, 2, none⟩ = some (.int .u64 (x : Int)) ∧ wx.cell? ⟨gb, 3, none⟩ = some (.string s)) w5 := ⟨(hg5 0).trans hHeld.1, (hg5 1).trans hHeld.2.1, (hg5 2).trans hHeld.2.2.1, (hg5 3).trans hHeld.2.2.2⟩
            have hq5 : w5.cell? ⟨bx, 0, none⟩ = some (A 0) := (hRG.fr.cell (a := ⟨bx, 0, none⟩) (unhide hxd).bl.2 hbA).trans ((unhide hxd).bxc 0 (by omega))
            have hf5 : w5.frozen? ⟨bx, 0, none⟩ = false := (hRG.fr.frozen (a := ⟨bx, 0, none⟩) (unhide hxd).bl.2 hbA).trans ((unhide hxd).bxf 0 (by omega))
            have hx6 := hide ((unhide hxd).grew (k := 0) (by omega) hRG)
            have hS6 : (fun wx => wx.cell? ⟨gb, 0, none⟩ = some (.int .i64 on) ∧ wx.cell? ⟨gb, 1, none⟩ = some (.int .i64 6) ∧ wx.cell? ⟨gb, 2, none⟩ = some (.int .u64 (x : Int)) ∧ wx.cell? ⟨gb, 3, none⟩ = some (.string s)) (w5.setCell ⟨bx, 0, none⟩ (.slice la ll lc)) := by
              have hne : ∀ i, (w5.setCell ⟨bx, 0, none⟩ (.slice la ll lc)).cell? ⟨gb, i, none⟩ = w5.cell? ⟨gb, i, none⟩ := fun i => World.cell?_setCell_other _ _ _ _ (fun e => (unhide hgd).bne (congrArg Addr.block e).symm)
              exact ⟨(hne 0).trans hS5.1, (hne 1).trans hS5.2.1, (hne 2).trans hS5.2.2.1, (hne 3).trans hS5.2.2.2⟩
            clear hCr hRG hgA hbA hg5 hxd
            go_simp
            refine hK.out _ _ hS5 (fun _ => ?_)
            clear hK K
            refine wpAnyH_take (i := 6) (oi := _) (v := .pointer (some ⟨bx, 0, none⟩)) rfl (by kernel_rfl) (by kernel_rfl) (by kernel_rfl) (fun _ _ _ h => h) (Or.inl ⟨by rfl, (by intro w hSw; go_simp)⟩) (by assumption) ?_
            go_simp
            refine wpAnyH_ready (rs := [7]) (by kernel_rfl) (by simp) ?_
            refine AllReadyH.cons (o := _) rfl (fun K hK => ?_) AllReadyH.nil
            go_simp
            refine hK.out _ _ hS6 (fun _ => ?_)
            clear hK K
            refine wpAnyH_done (by kernel_rfl) ?_ _
            have hlen6 : Hid ((updF bs 0 (bs 0 ++ rform 6 x s) 0).length + (updF bs 0 (bs 0 ++ rform 6 x s) 1).length + bulk (ps.drop (j + 1)) ≤ 16777216) := by
              have h1 := unhide hlen
              have h2 := rform_le 6 x s
              rw [Hid]
              unfold updF
              simp
              omega
            clear hHeld hS5 hS6 hq5 hf5 hgd hpre hll
            generalize updF bs 0 (bs 0 ++ rform 6 x s) = bs6 at *
            generalize updF A 0 (.slice la ll lc) = A6 at *
            go_simp
            go_wp2
            go_roundg (gk - 1)
            case measure => have := unhide hj; omega
            case rel => exact ⟨j + 1, V4, A6, bs6, R, n, xss, by have := unhide hj; unfold Hid; omega, by go_num, ⟨by have := (unhide hnj); omega, unhide hlen6⟩, hx6⟩
          · by_cases kl : kind < 0
            · have k5' : (kind == 5) = false := by rw [beq_eq_false_iff_ne]; omega
              have k6' : (kind == 6) = false := by rw [beq_eq_false_iff_ne]; omega
              have k0 : ¬ (0 : Int) ≤ kind := by omega
              have k0' : decide ((0 : Int) ≤ kind) = false := decide_eq_false k0
              have g1 := (unhide hg1).c1
              go_wp2
              go_quiet (fail)
              have hx3 := hide ((unhide hx1).drewN nq)
              have hg3 := hide ((unhide hg1).drewN nq)
              clear g1 hx1 hg1
              generalize wa.drewN nq = w3 at *
              have hC := hide (done_any (P 0) (V 0) (bs 0) w3 ((unhide hx3).wt 0 (by omega)) (by have := unhide hlen; omega))
              have g1 := (unhide hg3).c1
              go_wp2_with fail
              refine (unhide hC).mono ?_
              rintro e' w4 ⟨d, rfl, hown, hbel⟩
              obtain ⟨da, dc, he⟩ := row_shape hown
              obtain ⟨LK, hLK⟩ : ∃ L, Hid ((bs 0).length = L) := ⟨_, rfl⟩
              rw [unhide hLK] at he
              subst he
              have hx4 := hide ((unhide hx3).handed hown hbel (by have := unhide hlen; omega))
              clear hC hbel hx3 g1 hg3
              have hr4 : Hid (Rd w4 (.slice da LK dc) (bs 0)) := Rd.of_own hown
              have hRn : Hid (updF R n (.slice da LK dc) n = .slice da LK dc) := updF_at _ _ _
              generalize updF R n (.slice da LK dc) = R4 at *
              generalize updF xss n (bs 0) = xss4 at *
              have hC := hide (same_any (.slice da LK dc) (A 0) (bs 0) w4 (unhide hr4) (Rd.of_own ((unhide hx4).al 0 (by omega))))
              have cb := (unhide hx4).bxc 0 (by omega)
              clear hown hr4
              go_wp2_with fail
              refine (unhide hC).mono ?_
              rintro e' w5 ⟨rfl, k5n, hw5⟩
              have hx5 := hide ((unhide hx4).drewN k5n)
              rw [← hw5] at hx5
              clear hC hw5 k5n cb hx4
              obtain ⟨T, hT⟩ : ∃ T, Hid ((List.range n).map R4 = T) := ⟨_, rfl⟩
              have HO : Hid (w5.ownsRow W.heap.size 25 1 u6 n T) := by rw [Hid, ← unhide hT]; exact (unhide hx5).tow
              have hfz : W.heap.size ≤ w5.heap.size := (unhide hx5).fr
              have hnM : n < 1048577 := by have := unhide hnj; omega
              go_wp2_with (first | (at_builtin; refine wpList_append_own_at _ rfl _ _ 36 rfl W.heap.size 25 i0 (.slice none 0 0) 1 24 Try.underlying36 hi0 hz0 hz1 hz2 rfl (by decide) _ _ _ rfl ((unhide HO).alloc _) ⟨w5.heap.size, 0, none⟩ 1 1 [.slice da LK dc] rfl rfl (cell_one_new _ _ _) (by simp [Value.oneCell']) (by unfold maxLen; omega) (by omega) (by simp; omega) ?_))
              intro t7 w7 hown hgrow hnil hat
              have hx7 := hide ((unhide hx5).pushed (by omega) (by rw [unhide hRn, unhide hT]; exact hown) hgrow (by simpa using hat))
              have hlen7 : Hid ((bs 0).length + (bs 1).length + bulk (ps.drop (j + 1)) ≤ 16777216) := by have := unhide hlen; rw [Hid]; omega
              clear hown hgrow hnil hat HO hx5 hT hfz
              go_wp2
              go_roundg (gk - 1)
              case measure => have := unhide hj; omega
              case rel => exact ⟨j + 1, V, A, bs, R4, n + 1, xss4, by have := unhide hj; unfold Hid; omega, by go_num, ⟨by have := (unhide hnj); omega, unhide hlen7⟩, hx7⟩
            · by_cases kh : 6 < kind
              · have k5' : (kind == 5) = false := by rw [beq_eq_false_iff_ne]; omega
                have k6' : (kind == 6) = false := by rw [beq_eq_false_iff_ne]; omega
                have k0 : (0 : Int) ≤ kind := by omega
                have k0' : ¬ kind ≤ 6 := by omega
                have g1 := (unhide hg1).c1
                go_wp2
                go_quiet (fail)
                have hx3 := hide ((unhide hx1).drewN nq)
                have hg3 := hide ((unhide hg1).drewN nq)
                clear g1 hx1 hg1
                generalize wa.drewN nq = w3 at *
                have hC := hide (done_any (P 0) (V 0) (bs 0) w3 ((unhide hx3).wt 0 (by omega)) (by have := unhide hlen; omega))
                have g1 := (unhide hg3).c1
                go_wp2_with fail
                refine (unhide hC).mono ?_
                rintro e' w4 ⟨d, rfl, hown, hbel⟩
                obtain ⟨da, dc, he⟩ := row_shape hown
                obtain ⟨LK, hLK⟩ : ∃ L, Hid ((bs 0).length = L) := ⟨_, rfl⟩
                rw [unhide hLK] at he
                subst he
                have hx4 := hide ((unhide hx3).handed hown hbel (by have := unhide hlen; omega))
                clear hC hbel hx3 g1 hg3
                have hr4 : Hid (Rd w4 (.slice da LK dc) (bs 0)) := Rd.of_own hown
                have hRn : Hid (updF R n (.slice da LK dc) n = .slice da LK dc) := updF_at _ _ _
                generalize updF R n (.slice da LK dc) = R4 at *
                generalize updF xss n (bs 0) = xss4 at *
                have hC := hide (same_any (.slice da LK dc) (A 0) (bs 0) w4 (unhide hr4) (Rd.of_own ((unhide hx4).al 0 (by omega))))
                have cb := (unhide hx4).bxc 0 (by omega)
                clear hown hr4
                go_wp2_with fail
                refine (unhide hC).mono ?_
                rintro e' w5 ⟨rfl, k5n, hw5⟩
                have hx5 := hide ((unhide hx4).drewN k5n)
                rw [← hw5] at hx5
                clear hC hw5 k5n cb hx4
                obtain ⟨T, hT⟩ : ∃ T, Hid ((List.range n).map R4 = T) := ⟨_, rfl⟩
                have HO : Hid (w5.ownsRow W.heap.size 25 1 u6 n T) := by rw [Hid, ← unhide hT]; exact (unhide hx5).tow
                have hfz : W.heap.size ≤ w5.heap.size := (unhide hx5).fr
                have hnM : n < 1048577 := by have := unhide hnj; omega
                go_wp2_with (first | (at_builtin; refine wpList_append_own_at _ rfl _ _ 36 rfl W.heap.size 25 i0 (.slice none 0 0) 1 24 Try.underlying36 hi0 hz0 hz1 hz2 rfl (by decide) _ _ _ rfl ((unhide HO).alloc _) ⟨w5.heap.size, 0, none⟩ 1 1 [.slice da LK dc] rfl rfl (cell_one_new _ _ _) (by simp [Value.oneCell']) (by unfold maxLen; omega) (by omega) (by simp; omega) ?_))
                intro t7 w7 hown hgrow hnil hat
                have hx7 := hide ((unhide hx5).pushed (by omega) (by rw [unhide hRn, unhide hT]; exact hown) hgrow (by simpa using hat))
                have hlen7 : Hid ((bs 0).length + (bs 1).length + bulk (ps.drop (j + 1)) ≤ 16777216) := by have := unhide hlen; rw [Hid]; omega
                clear hown hgrow hnil hat HO hx5 hT hfz
                go_wp2
                go_roundg (gk - 1)
                case measure => have := unhide hj; omega
                case rel => exact ⟨j + 1, V, A, bs, R4, n + 1, xss4, by have := unhide hj; unfold Hid; omega, by go_num, ⟨by have := (unhide hnj); omega, unhide hlen7⟩, hx7⟩
              · have k0 : (0 : Int) ≤ kind := by omega
                have k7 : kind ≤ 6 := by omega
                have k5' : (kind == 5) = false := by rw [beq_eq_false_iff_ne]; exact k5
                have k6' : (kind == 6) = false := by rw [beq_eq_false_iff_ne]; exact k6
                have hbw : Hid ((bs 0).length + 10 + s.size ≤ 140737488355328) := by have := unhide hlen; rw [Hid]; omega
                have hpre : Hid (updF bs 0 (bs 0 ++ pform kind x s) = updF bs 0 (bs 0 ++ rform kind x s)) := by
                  rw [Hid, show rform kind x s = pform kind x s from if_neg (by omega)]
                have g1 := (unhide hg1).c1
                go_wp2
                go_quiet (fail)
                have hx3 := hide ((unhide hx1).drewN nq)
                have hg3 := hide ((unhide hg1).drewN nq)
                clear g1 hx1 hg1
                generalize wa.drewN nq = w3 at *
                have hC2 := put_any (P 0) (V 0) (bs 0) on kind x s w3 ((unhide hx3).wt 0 (by omega)) (by have := unhide hbw; have := unhide hlen; omega) hx64
                unfold PutV at hC2
                have hC2 := hide hC2
                have g0 := (unhide hg3).c0
                have g1 := (unhide hg3).c1
                have g2 := (unhide hg3).c2
                have g3 := (unhide hg3).c3
                go_wp2_with fail
                refine (unhide hC2).mono ?_
                rintro e' w4 ⟨rfl, v4, hW4, hT4⟩
                have hx4 := hide ((unhide hx3).wrote (k := 0) (by omega) hW4 hT4)
                have hg4 := hide ((unhide hg3).wrote (k := 0) (by omega) hT4)
                clear hC2 hW4 hT4 g0 g1 g2 g3 hx3 hg3
                have hbe : Hid (updF bs 0 (bs 0 ++ pform kind x s) = updF bs 0 (bs 0 ++ rform kind x s)) := unhide hpre
                rw [unhide hbe] at hx4
                generalize updF V 0 v4 = V4 at *
                have hxd := hide ((unhide hx4).below ((Below.refl _ _).drew))
                have hgd := hide ((unhide hg4).drewN 1)
                have hSd : (fun wx => wx.cell? ⟨gb, 0, none⟩ = some (.int .i64 on) ∧ wx.cell? ⟨gb, 1, none⟩ = some (.int .i64 kind) ∧ wx.cell? ⟨gb, 2, none⟩ = some (.int .u64 (x : Int)) ∧ wx.cell? ⟨gb, 3, none⟩ = some (.string s)) w4.drew := ⟨(unhide hgd).c0, (unhide hgd).c1, (unhide hgd).c2, (unhide hgd).c3⟩
                have hgd : Hid (GB V4 A u6 R n P bx gb on kind x s w4.drew) := hgd
                clear hx4 hg4 hbe
                go_wp2_with fail
                refine wp_region_held_drew (S := fun wx => wx.cell? ⟨gb, 0, none⟩ = some (.int .i64 on) ∧ wx.cell? ⟨gb, 1, none⟩ = some (.int .i64 kind) ∧ wx.cell? ⟨gb, 2, none⟩ = some (.int .u64 (x : Int)) ∧ wx.cell? ⟨gb, 3, none⟩ = some (.string s)) (by kernel_rfl) hSd (fun hHeld => ?_)
                clear hSd
                generalize w4.drew = wd at *
                have hCr := putRef_any W.heap.size (A 0) (bs 0) on kind x s wd ((unhide hxd).al 0 (by omega)) (unhide hxd).fr (by have := unhide hlen; omega) hx64
                unfold PutV at hCr
                have hCr := hide hCr
                refine wpAnyH_take (i := 0) (oi := _) (v := .int .i64 0) rfl (by kernel_rfl) (by kernel_rfl) (by kernel_rfl) (fun _ _ _ h => h) (Or.inl ⟨by rfl, (by intro w hSw; go_simp)⟩) (by assumption) ?_
                refine wpAnyH_take (i := 1) (oi := _) (v := .int .i64 0) rfl (by kernel_rfl) (by kernel_rfl) (by kernel_rfl) (fun _ _ _ h => h) (Or.inl ⟨by rfl, (by intro w hSw; go_simp)⟩) (by assumption) ?_
                refine wpAnyH_take (i := 2) (oi := _) (v := .pointer (some ⟨bx, 0, none⟩)) rfl (by kernel_rfl) (by kernel_rfl) (by kernel_rfl) (fun _ _ _ h => h) (Or.inl ⟨by rfl, (by intro w hSw; go_simp)⟩) (by assumption) ?_
                go_simp
                refine wpAnyH_take (i := 4) (oi := _) (v := .agg #[.int .i64 on, .int .i64 kind, .int .u64 (x : Int), .string s]) rfl (by kernel_rfl) (by kernel_rfl) (by kernel_rfl) (fun _ _ _ h => h) (Or.inl ⟨by rfl, (by intro w hSw; obtain ⟨g0, g1, g2, g3⟩ := hSw; go_simp)⟩) (by assumption) ?_
                go_simp
                refine wpAnyH_ready (rs := [3]) (by kernel_rfl) (by simp) ?_
                refine AllReadyH.cons (o := _) rfl (fun K hK => ?_) AllReadyH.nil
                have hcq := (unhide hxd).bxc 0 (by omega)
                go_simp
                refine hK.out _ _ hHeld (fun _ => ?_)
                clear hK K hcq
                refine wpAnyH_ready (rs := [5]) (by kernel_rfl) (by simp) ?_
                refine AllReadyH.cons (o := _) rfl (fun K hK => ?_) AllReadyH.nil
                go_simp
                refine (unhide hCr).mono ?_
                rintro e' w5 ⟨l5, rfl, hRG⟩
                obtain ⟨la, lc, hl5⟩ := row_shape hRG.own
                obtain ⟨ll, hll⟩ : ∃ ll, Hid ((bs 0 ++ rform kind x s).length = ll) := ⟨_, rfl⟩
                rw [unhide hll] at hl5
                subst hl5
                have hgA : ¬ (A 0).ownBlock = some gb := fun q => (unhide hgd).far (0 + 2) (by rw [fam_A (by omega)]; exact q)
                have hbA : ¬ (A 0).ownBlock = some bx := fun q => (unhide hxd).ba (0 + 2) (by rw [fam_A (by omega)]; exact q)
                have hg5 : ∀ i, w5.cell? ⟨gb, i, none⟩ = wd.cell? ⟨gb, i, none⟩ := fun i => hRG.fr.cell (a := ⟨gb, i, none⟩) (unhide hgd).lt hgA
                have hS5 : (fun wx => wx.cell? ⟨gb, 0, none⟩ = some (.int .i64 on) ∧ wx.cell? ⟨gb, 1, none⟩ = some (.int .i64 kind) ∧ wx.cell? ⟨gb, 2, none⟩ = some (.int .u64 (x : Int)) ∧ wx.cell? ⟨gb, 3, none⟩ = some (.string s)) w5 := ⟨(hg5 0).trans hHeld.1, (hg5 1).trans hHeld.2.1, (hg5 2).trans hHeld.2.2.1, (hg5 3).trans hHeld.2.2.2⟩
                have hq5 : w5.cell? ⟨bx, 0, none⟩ = some (A 0) := (hRG.fr.cell (a := ⟨bx, 0, none⟩) (unhide hxd).bl.2 hbA).trans ((unhide hxd).bxc 0 (by omega))
                have hf5 : w5.frozen? ⟨bx, 0, none⟩ = false := (hRG.fr.frozen (a := ⟨bx, 0, none⟩) (unhide hxd).bl.2 hbA).trans ((unhide hxd).bxf 0 (by omega))
                have hx6 := hide ((unhide hxd).grew (k := 0) (by omega) hRG)
                have hS6 : (fun wx => wx.cell? ⟨gb, 0, none⟩ = some (.int .i64 on) ∧ wx.cell? ⟨gb, 1, none⟩ = some (.int .i64 kind) ∧ wx.cell? ⟨gb, 2, none⟩ = some (.int .u64 (x : Int)) ∧ wx.cell? ⟨gb, 3, none⟩ = some (.string s)) (w5.setCell ⟨bx, 0, none⟩ (.slice la ll lc)) := by
                  have hne : ∀ i, (w5.setCell ⟨bx, 0, none⟩ (.slice la ll lc)).cell? ⟨gb, i, none⟩ = w5.cell? ⟨gb, i, none⟩ := fun i => World.cell?_setCell_other _ _ _ _ (fun e => (unhide hgd).bne (congrArg Addr.block e).symm)
                  exact ⟨(hne 0).trans hS5.1, (hne 1).trans hS5.2.1, (hne 2).trans hS5.2.2.1, (hne 3).trans hS5.2.2.2⟩
                clear hCr hRG hgA hbA hg5 hxd
                go_simp
                refine hK.out _ _ hS5 (fun _ => ?_)
                clear hK K
                refine wpAnyH_take (i := 6) (oi := _) (v := .pointer (some ⟨bx, 0, none⟩)) rfl (by kernel_rfl) (by kernel_rfl) (by kernel_rfl) (fun _ _ _ h => h) (Or.inl ⟨by rfl, (by intro w hSw; go_simp)⟩) (by assumption) ?_
                go_simp
                refine wpAnyH_ready (rs := [7]) (by kernel_rfl) (by simp) ?_
                refine AllReadyH.cons (o := _) rfl (fun K hK => ?_) AllReadyH.nil
                go_simp
                refine hK.out _ _ hS6 (fun _ => ?_)
                clear hK K
                refine wpAnyH_done (by kernel_rfl) ?_ _
                have hlen6 : Hid ((updF bs 0 (bs 0 ++ rform kind x s) 0).length + (updF bs 0 (bs 0 ++ rform kind x s) 1).length + bulk (ps.drop (j + 1)) ≤ 16777216) := by
                  have h1 := unhide hlen
                  have h2 := rform_le kind x s
                  rw [Hid]
                  unfold updF
                  simp
                  omega
                clear hHeld hS5 hS6 hq5 hf5 hgd hpre hll
                generalize updF bs 0 (bs 0 ++ rform kind x s) = bs6 at *
                generalize updF A 0 (.slice la ll lc) = A6 at *
                go_simp
                go_wp2
                go_roundg (gk - 1)
                case measure => have := unhide hj; omega
                case rel => exact ⟨j + 1, V4, A6, bs6, R, n, xss, by have := unhide hj; unfold Hid; omega, by go_num, ⟨by have := (unhide hnj); omega, unhide hlen6⟩, hx6⟩
      · have hkk : pick2 on = 1 := by unfold pick2; omega
        rw [hkk]
        have hx1 := hide ((unhide hS).alloc (.cells #[.int .i64 on, .int .i64 kind, .int .u64 (x : Int), .string s] 29))
        have hg1 := hide (GB.new (unhide hS) on kind x s)
        clear hS
        generalize (wr.alloc (.cells #[.int .i64 on, .int .i64 kind, .int .u64 (x : Int), .string s] 29)) = wa at *
        generalize wr.heap.size = gb at *
        by_cases k5 : kind = 5
        · subst k5
          have hC1 := hide (rawCall_any (P 1) (V 1) (bs 1) s wa ((unhide hx1).wt 1 (by omega)) (by have := unhide hlen; omega))
          have g1 := (unhide hg1).c1
          have g3 := (unhide hg1).c3
          go_wp2_with fail
          refine (unhide hC1).mono ?_
          rintro e' w2 ⟨rfl, v2, hW2, hT2⟩
          have hx2 := hide ((unhide hx1).wrote (k := 1) (by omega) hW2 hT2)
          have hg2 := hide ((unhide hg1).wrote (k := 1) (by omega) hT2)
          clear hC1 hW2 hT2 g1 g3 hx1 hg1
          have hbw : Hid ((updF bs 1 (bs 1 ++ strI s) 1).length + 10 + s.size ≤ 140737488355328) := by
            have := unhide hlen
            rw [Hid, updF_at, List.length_append, strI_length]
            omega
          have hpre : Hid (updF (updF bs 1 (bs 1 ++ strI s)) 1 (updF bs 1 (bs 1 ++ strI s) 1 ++ pform 5 x s) = updF bs 1 (bs 1 ++ rform 5 x s)) := by
            rw [Hid, updF_at, show pform 5 x s = [] from rfl, show rform 5 x s = strI s from rfl, List.append_nil]
            exact updF_again _ _ _ _
          have g1 := (unhide hg2).c1
          go_wp2
          go_quiet (fail)
          have hx3 := hide ((unhide hx2).drewN nq)
          have hg3 := hide ((unhide hg2).drewN nq)
          clear g1 hx2 hg2
          generalize w2.drewN nq = w3 at *
          generalize updF bs 1 (bs 1 ++ strI s) = bsW at *
          generalize updF V 1 v2 = V3 at *
          have hC2 := put_any (P 1) (V3 1) (bsW 1) on 5 x s w3 ((unhide hx3).wt 1 (by omega)) (by have := unhide hbw; have := unhide hlen; omega) hx64
          unfold PutV at hC2
          have hC2 := hide hC2
          have g0 := (unhide hg3).c0
          have g1 := (unhide hg3).c1
          have g2 := (unhide hg3).c2
          have g3 := (unhide hg3).c3
          go_wp2_with fail
          refine (unhide hC2).mono ?_
          rintro e' w4 ⟨rfl, v4, hW4, hT4⟩
          have hx4 := hide ((unhide hx3).wrote (k := 1) (by omega) hW4 hT4)
          have hg4 := hide ((unhide hg3).wrote (k := 1) (by omega) hT4)
          clear hC2 hW4 hT4 g0 g1 g2 g3 hx3 hg3
          have hbe : Hid (updF bsW 1 (bsW 1 ++ pform 5 x s) = updF bs 1 (bs 1 ++ rform 5 x s)) := unhide hpre
          rw [unhide hbe] at hx4
          generalize updF V3 1 v4 = V4 at *
          have hxd := hide ((unhide hx4).below ((Below.refl _ _).drew))
          have hgd := hide ((unhide hg4).drewN 1)
          have hSd : (fun wx => wx.cell? ⟨gb, 0, none⟩ = some (.int .i64 on) ∧ wx.cell? ⟨gb, 1, none⟩ = some (.int .i64 5) ∧ wx.cell? ⟨gb, 2, none⟩ = some (.int .u64 (x : Int)) ∧ wx.cell? ⟨gb, 3, none⟩ = some (.string s)) w4.drew := ⟨(unhide hgd).c0, (unhide hgd).c1, (unhide hgd).c2, (unhide hgd).c3⟩
          have hgd : Hid (GB V4 A u6 R n P bx gb on 5 x s w4.drew) := hgd
          clear hx4 hg4 hbe
          go_wp2_with fail
          refine wp_region_held_drew (S := fun wx => wx.cell? ⟨gb, 0, none⟩ = some (.int .i64 on) ∧ wx.cell? ⟨gb, 1, none⟩ = some (.int .i64 5) ∧ wx.cell? ⟨gb, 2, none⟩ = some (.int .u64 (x : Int)) ∧ wx.cell? ⟨gb, 3, none⟩ = some (.string s)) (by kernel_rfl) hSd (fun hHeld => ?_)
          clear hSd
          generalize w4.drew = wd at *
          have hCr := putRef_any W.heap.size (A 1) (bs 1) on 5 x s wd ((unhide hxd).al 1 (by omega)) (unhide hxd).fr (by have := unhide hlen; omega) hx64
          unfold PutV at hCr
          have hCr := hide hCr
          refine wpAnyH_take (i := 0) (oi := _) (v := .int .i64 1) rfl (by kernel_rfl) (by kernel_rfl) (by kernel_rfl) (fun _ _ _ h => h) (Or.inl ⟨by rfl, (by intro w hSw; go_simp)⟩) (by assumption) ?_
          refine wpAnyH_take (i := 1) (oi := _) (v := .int .i64 1) rfl (by kernel_rfl) (by kernel_rfl) (by kernel_rfl) (fun _ _ _ h => h) (Or.inl ⟨by rfl, (by intro w hSw; go_simp)⟩) (by assumption) ?_
          refine wpAnyH_take (i := 2) (oi := _) (v := .pointer (some ⟨bx, 1, none⟩)) rfl (by kernel_rfl) (by kernel_rfl) (by kernel_rfl) (fun _ _ _ h => h) (Or.inl ⟨by rfl, (by intro w hSw; go_simp)⟩) (by assumption) ?_
          go_simp
          refine wpAnyH_take (i := 4) (oi := _) (v := .agg #[.int .i64 on, .int .i64 5, .int .u64 (x : Int), .string s]) rfl (by kernel_rfl) (by kernel_rfl) (by kernel_rfl) (fun _ _ _ h => h) (Or.inl ⟨by rfl, (by intro w hSw; obtain ⟨g0, g1, g2, g3⟩ := hSw; go_simp)⟩) (by assumption) ?_
          go_simp
          refine wpAnyH_ready (rs := [3]) (by kernel_rfl) (by simp) ?_
          refine AllReadyH.cons (o := _) rfl (fun K hK => ?_) AllReadyH.nil
          have hcq := (unhide hxd).bxc 1 (by omega)
          go_simp
          refine hK.out _ _ hHeld (fun _ => ?_)
          clear hK K hcq
          refine wpAnyH_ready (rs := [5]) (by kernel_rfl) (by simp) ?_
          refine AllReadyH.cons (o := _) rfl (fun K hK => ?_) AllReadyH.nil
          go_simp
          refine (unhide hCr).mono ?_
          rintro e' w5 ⟨l5, rfl, hRG⟩
          obtain ⟨la, lc, hl5⟩ := row_shape hRG.own
          obtain ⟨ll, hll⟩ : ∃ ll, Hid ((bs 1 ++ rform 5 x s).length = ll) := ⟨_, rfl⟩
          rw [unhide hll] at hl5
          subst hl5
          have hgA : ¬ (A 1).ownBlock = some gb := fun q => (unhide hgd).far (1 + 2) (by rw [fam_A (by omega)]; exact q)
          have hbA : ¬ (A 1).ownBlock = some bx := fun q => (unhide hxd).ba (1 + 2) (by rw [fam_A (by omega)]; exact q)
          have hg5 : ∀ i, w5.cell? ⟨gb, i, none⟩ = wd.cell? ⟨gb, i, none⟩ := fun i => hRG.fr.cell (a := ⟨gb, i, none⟩) (unhide hgd).lt hgA
          have hS5 : (fun wx => wx.cell? ⟨gb, 0, none⟩ = some (.int .i64 on) ∧ wx.cell? ⟨gb, 1, none⟩ = some (.int .i64 5) ∧ wx.cell? ⟨gb, 2, none⟩ = some (.int .u64 (x : Int)) ∧ wx.cell? ⟨gb, 3, none⟩ = some (.string s)) w5 := ⟨(hg5 0).trans hHeld.1, (hg5 1).trans hHeld.2.1, (hg5 2).trans hHeld.2.2.1, (hg5 3).trans hHeld.2.2.2⟩
          have hq5 : w5.cell? ⟨bx, 1, none⟩ = some (A 1) := (hRG.fr.cell (a := ⟨bx, 1, none⟩) (unhide hxd).bl.2 hbA).trans ((unhide hxd).bxc 1 (by omega))
          have hf5 : w5.frozen? ⟨bx, 1, none⟩ = false := (hRG.fr.frozen (a := ⟨bx, 1, none⟩) (unhide hxd).bl.2 hbA).trans ((unhide hxd).bxf 1 (by omega))
          have hx6 := hide ((unhide hxd).grew (k := 1) (by omega) hRG)
          have hS6 : (fun wx => wx.cell? ⟨gb, 0, none⟩ = some (.int .i64 on) ∧ wx.cell? ⟨gb, 1, none⟩ = some (.int .i64 5) ∧ wx.cell? ⟨gb, 2, none⟩ = some (.int .u64 (x : Int)) ∧ wx.cell? ⟨gb, 3, none⟩ = some (.string s)) (w5.setCell ⟨bx, 1, none⟩ (.slice la ll lc)) := by
            have hne : ∀ i, (w5.setCell ⟨bx, 1, none⟩ (.slice la ll lc)).cell? ⟨gb, i, none⟩ = w5.cell? ⟨gb, i, none⟩ := fun i => World.cell?_setCell_other _ _ _ _ (fun e => (unhide hgd).bne (congrArg Addr.block e).symm)
            exact ⟨(hne 0).trans hS5.1, (hne 1).trans hS5.2.1, (hne 2).trans hS5.2.2.1, (hne 3).trans hS5.2.2.2⟩
          clear hCr hRG hgA hbA hg5 hxd
          go_simp
          refine hK.out _ _ hS5 (fun _ => ?_)
          clear hK K
          refine wpAnyH_take (i := 6) (oi := _) (v := .pointer (some ⟨bx, 1, none⟩)) rfl (by kernel_rfl) (by kernel_rfl) (by kernel_rfl) (fun _ _ _ h => h) (Or.inl ⟨by rfl, (by intro w hSw; go_simp)⟩) (by assumption) ?_
          go_simp
          refine wpAnyH_ready (rs := [7]) (by kernel_rfl) (by simp) ?_
          refine AllReadyH.cons (o := _) rfl (fun K hK => ?_) AllReadyH.nil
          go_simp
          refine hK.out _ _ hS6 (fun _ => ?_)
          clear hK K
          refine wpAnyH_done (by kernel_rfl) ?_ _
          have hlen6 : Hid ((updF bs 1 (bs 1 ++ rform 5 x s) 0).length + (updF bs 1 (bs 1 ++ rform 5 x s) 1).length + bulk (ps.drop (j + 1)) ≤ 16777216) := by
            have h1 := unhide hlen
            have h2 := rform_le 5 x s
            rw [Hid]
            unfold updF
            simp
            omega
          clear hHeld hS5 hS6 hq5 hf5 hgd hpre hll
          generalize updF bs 1 (bs 1 ++ rform 5 x s) = bs6 at *
          generalize updF A 1 (.slice la ll lc) = A6 at *
          go_simp
          go_wp2
          go_roundg (gk - 1)
          case measure => have := unhide hj; omega
          case rel => exact ⟨j + 1, V4, A6, bs6, R, n, xss, by have := unhide hj; unfold Hid; omega, by go_num, ⟨by have := (unhide hnj); omega, unhide hlen6⟩, hx6⟩
        · by_cases k6 : kind = 6
          · subst k6
            obtain ⟨aK, cK, hAK⟩ := row_shape ((unhide hx1).al 1 (by omega))
            obtain ⟨LK, hLK⟩ : ∃ L, Hid ((bs 1).length = L) := ⟨_, rfl⟩
            rw [unhide hLK] at hAK
            have K2 : Hid (∀ m, Calls Try.prog 14 #[.pointer (some ⟨P 1, 0, none⟩)] (wa.drewN m) fun e w' => e = .returned (.int .i64 (LK : Int)) ∧ w' = wa.drewN m) := fun m => by
              have h1 := wlen_any _ _ _ _ (((unhide hx1).wt 1 (by omega)).drewN m)
              rw [unhide hLK] at h1
              exact h1
            have cb := (unhide hx1).bxc 1 (by omega)
            rw [hAK] at cb
            clear hAK
            have hbw : Hid ((bs 1).length + 10 + s.size ≤ 140737488355328) := by have := unhide hlen; rw [Hid]; omega
            have hpre : Hid (updF bs 1 (bs 1 ++ pform 6 x s) = updF bs 1 (bs 1 ++ rform 6 x s)) := by
              rw [Hid, show rform 6 x s = pform 6 x s from if_neg (by decide)]
            have g1 := (unhide hg1).c1
            go_wp2
            go_quiet (first | (go_at_call 14; exact Calls.quiet_of_same (unhide K2 _)))
            have hx3 := hide ((unhide hx1).drewN nq)
            have hg3 := hide ((unhide hg1).drewN nq)
            clear g1 hx1 hg1
            generalize wa.drewN nq = w3 at *
            clear K2 hLK
            try clear cb
            have hC2 := put_any (P 1) (V 1) (bs 1) on 6 x s w3 ((unhide hx3).wt 1 (by omega)) (by have := unhide hbw; have := unhide hlen; omega) hx64
            unfold PutV at hC2
            have hC2 := hide hC2
            have g0 := (unhide hg3).c0
            have g1 := (unhide hg3).c1
            have g2 := (unhide hg3).c2
            have g3 := (unhide hg3).c3
            go_wp2_with fail
            refine (unhide hC2).mono ?_
            rintro e' w4 ⟨rfl, v4, hW4, hT4⟩
            have hx4 := hide ((unhide hx3).wrote (k := 1) (by omega) hW4 hT4)
            have hg4 := hide ((unhide hg3).wrote (k := 1) (by omega) hT4)
            clear hC2 hW4 hT4 g0 g1 g2 g3 hx3 hg3
            have hbe : Hid (updF bs 1 (bs 1 ++ pform 6 x s) = updF bs 1 (bs 1 ++ rform 6 x s)) := unhide hpre
            rw [unhide hbe] at hx4
            generalize updF V 1 v4 = V4 at *
            have hxd := hide ((unhide hx4).below ((Below.refl _ _).drew))
            have hgd := hide ((unhide hg4).drewN 1)
            have hSd : (fun wx => wx.cell? ⟨gb, 0, none⟩ = some (.int .i64 on) ∧ wx.cell? ⟨gb, 1, none⟩ = some (.int .i64 6) ∧ wx.cell? ⟨gb, 2, none⟩ = some (.int .u64 (x : Int)) ∧ wx.cell? ⟨gb, 3, none⟩ = some (.string s)) w4.drew := ⟨(unhide hgd).c0, (unhide hgd).c1, (unhide hgd).c2, (unhide hgd).c3⟩
            have hgd : Hid (GB V4 A u6 R n P bx gb on 6 x s w4.drew) := hgd
            clear hx4 hg4 hbe
            go_wp2_with fail
            refine wp_region_held_drew (S := fun wx => wx.cell? ⟨gb, 0, none⟩ = some (.int .i64 on) ∧ wx.cell? ⟨gb, 1, none⟩ = some (.int .i64 6) ∧ wx.cell? ⟨gb, 2, none⟩ = some (.int .u64 (x : Int)) ∧ wx.cell? ⟨gb, 3, none⟩ = some (.string s)) (by kernel_rfl) hSd (fun hHeld => ?_)
            clear hSd
            generalize w4.drew = wd at *
            have hCr := putRef_any W.heap.size (A 1) (bs 1) on 6 x s wd ((unhide hxd).al 1 (by omega)) (unhide hxd).fr (by have := unhide hlen; omega) hx64
            unfold PutV at hCr
            have hCr := hide hCr
            refine wpAnyH_take (i := 0) (oi := _) (v := .int .i64 1) rfl (by kernel_rfl) (by kernel_rfl) (by kernel_rfl) (fun _ _ _ h => h) (Or.inl ⟨by rfl, (by intro w hSw; go_simp)⟩) (by assumption) ?_
            refine wpAnyH_take (i := 1) (oi := _) (v := .int .i64 1) rfl (by kernel_rfl) (by kernel_rfl) (by kernel_rfl) (fun _ _ _ h => h) (Or.inl ⟨by rfl, (by intro w hSw; go_simp)⟩) (by assumption) ?_
            refine wpAnyH_take (i := 2) (oi := _) (v := .pointer (some ⟨bx, 1, none⟩)) rfl (by kernel_rfl) (by kernel_rfl) (by kernel_rfl) (fun _ _ _ h => h) (Or.inl ⟨by rfl, (by intro w hSw; go_simp)⟩) (by assumption) ?_
            go_simp
            refine wpAnyH_take (i := 4) (oi := _) (v := .agg #[.int .i64 on, .int .i64 6, .int .u64 (x : Int), .string s]) rfl (by kernel_rfl) (by kernel_rfl) (by kernel_rfl) (fun _ _ _ h => h) (Or.inl ⟨by rfl, (by intro w hSw; obtain ⟨g0, g1, g2, g3⟩ := hSw; go_simp)⟩) (by assumption) ?_
            go_simp
            refine wpAnyH_ready (rs := [3]) (by kernel_rfl) (by simp) ?_
            refine AllReadyH.cons (o := _) rfl (fun K hK => ?_) AllReadyH.nil
            have hcq := (unhide hxd).bxc 1 (by omega)
            go_simp
            refine hK.out _ _ hHeld (fun _ => ?_)
            clear hK K hcq
            refine wpAnyH_ready (rs := [5]) (by kernel_rfl) (by simp) ?_
            refine AllReadyH.cons (o := _) rfl (fun K hK => ?_) AllReadyH.nil
            go_simp
            refine (unhide hCr).mono ?_
            rintro e' w5 ⟨l5, rfl, hRG⟩
            obtain ⟨la, lc, hl5⟩ := row_shape hRG.own
            obtain ⟨ll, hll⟩ : ∃ ll, Hid ((bs 1 ++ rform 6 x s).length = ll) := ⟨_, rfl⟩
            rw [unhide hll] at hl5
            subst hl5
            have hgA : ¬ (A 1).ownBlock = some gb := fun q => (unhide hgd).far (1 + 2) (by rw [fam_A (by omega)]; exact q)
            have hbA : ¬ (A 1).ownBlock = some bx := fun q => (unhide hxd).ba (1 + 2) (by rw [fam_A (by omega)]; exact q)
            have hg5 : ∀ i, w5.cell? ⟨gb, i, none⟩ = wd.cell? ⟨gb, i, none⟩ := fun i => hRG.fr.cell (a := ⟨gb, i, none⟩) (unhide hgd).lt hgA
            have hS5 : (fun wx => wx.cell? ⟨gb, 0, none⟩ = some (.int .i64 on) ∧ wx.cell? ⟨gb, 1, none⟩ = some (.int .i64 6) ∧ wx.cell? ⟨gb, 2, none⟩ = some (.int .u64 (x : Int)) ∧ wx.cell? ⟨gb, 3, none⟩ = some (.string s)) w5 := ⟨(hg5 0).trans hHeld.1, (hg5 1).trans hHeld.2.1, (hg5 2).trans hHeld.2.2.1, (hg5 3).trans hHeld.2.2.2⟩
            have hq5 : w5.cell? ⟨bx, 1, none⟩ = some (A 1) := (hRG.fr.cell (a := ⟨bx, 1, none⟩) (unhide hxd).bl.2 hbA).trans ((unhide hxd).bxc 1 (by omega))
            have hf5 : w5.frozen? ⟨bx, 1, none⟩ = false := (hRG.fr.frozen (a := ⟨bx, 1, none⟩) (unhide hxd).bl.2 hbA).trans ((unhide hxd).bxf 1 (by omega))
            have hx6 := hide ((unhide hxd).grew (k := 1) (by omega) hRG)
            have hS6 : (fun wx => wx.cell? ⟨gb, 0, none⟩ = some (.int .i64 on) ∧ wx.cell? ⟨gb, 1, none⟩ = some (.int .i64 6) ∧ wx.cell? ⟨gb, 2, none⟩ = some (.int .u64 (x : Int)) ∧ wx.cell? ⟨gb, 3, none⟩ = some (.string s)) (w5.setCell ⟨bx, 1, none⟩ (.slice la ll lc)) := by
              have hne : ∀ i, (w5.setCell ⟨bx, 1, none⟩ (.slice la ll lc)).cell? ⟨gb, i, none⟩ = w5.cell? ⟨gb, i, none⟩ := fun i => World.cell?_setCell_other _ _ _ _ (fun e => (unhide hgd).bne (congrArg Addr.block e).symm)
              exact ⟨(hne 0).trans hS5.1, (hne 1).trans hS5.2.1, (hne 2).trans hS5.2.2.1, (hne 3).trans hS5.2.2.2⟩
            clear hCr hRG hgA hbA hg5 hxd
            go_simp
            refine hK.out _ _ hS5 (fun _ => ?_)
            clear hK K
            refine wpAnyH_take (i := 6) (oi := _) (v := .pointer (some ⟨bx, 1, none⟩)) rfl (by kernel_rfl) (by kernel_rfl) (by kernel_rfl) (fun _ _ _ h => h) (Or.inl ⟨by rfl, (by intro w hSw; go_simp)⟩) (by assumption) ?_
            go_simp
            refine wpAnyH_ready (rs := [7]) (by kernel_rfl) (by simp) ?_
            refine AllReadyH.cons (o := _) rfl (fun K hK => ?_) AllReadyH.nil
            go_simp
            refine hK.out _ _ hS6 (fun _ => ?_)
            clear hK K
            refine wpAnyH_done (by kernel_rfl) ?_ _
            have hlen6 : Hid ((updF bs 1 (bs 1 ++ rform 6 x s) 0).length + (updF bs 1 (bs 1 ++ rform 6 x s) 1).length + bulk (ps.drop (j + 1)) ≤ 16777216) := by
              have h1 := unhide hlen
              have h2 := rform_le 6 x s
              rw [Hid]
              unfold updF
              simp
              omega
            clear hHeld hS5 hS6 hq5 hf5 hgd hpre hll
            generalize updF bs 1 (bs 1 ++ rform 6 x s) = bs6 at *
            generalize updF A 1 (.slice la ll lc) = A6 at *
            go_simp
            go_wp2
            go_roundg (gk - 1)
            case measure => have := unhide hj; omega
            case rel => exact ⟨j + 1, V4, A6, bs6, R, n, xss, by have := unhide hj; unfold Hid; omega, by go_num, ⟨by have := (unhide hnj); omega, unhide hlen6⟩, hx6⟩
          · by_cases kl : kind < 0
            · have k5' : (kind == 5) = false := by rw [beq_eq_false_iff_ne]; omega
              have k6' : (kind == 6) = false := by rw [beq_eq_false_iff_ne]; omega
              have k0 : ¬ (0 : Int) ≤ kind := by omega
              have k0' : decide ((0 : Int) ≤ kind) = false := decide_eq_false k0
              have g1 := (unhide hg1).c1
              go_wp2
              go_quiet (fail)
              have hx3 := hide ((unhide hx1).drewN nq)
              have hg3 := hide ((unhide hg1).drewN nq)
              clear g1 hx1 hg1
              generalize wa.drewN nq = w3 at *
              have hC := hide (done_any (P 1) (V 1) (bs 1) w3 ((unhide hx3).wt 1 (by omega)) (by have := unhide hlen; omega))
              have g1 := (unhide hg3).c1
              go_wp2_with fail
              refine (unhide hC).mono ?_
              rintro e' w4 ⟨d, rfl, hown, hbel⟩
              obtain ⟨da, dc, he⟩ := row_shape hown
              obtain ⟨LK, hLK⟩ : ∃ L, Hid ((bs 1).length = L) := ⟨_, rfl⟩
              rw [unhide hLK] at he
              subst he
              have hx4 := hide ((unhide hx3).handed hown hbel (by have := unhide hlen; omega))
              clear hC hbel hx3 g1 hg3
              have hr4 : Hid (Rd w4 (.slice da LK dc) (bs 1)) := Rd.of_own hown
              have hRn : Hid (updF R n (.slice da LK dc) n = .slice da LK dc) := updF_at _ _ _
              generalize updF R n (.slice da LK dc) = R4 at *
              generalize updF xss n (bs 1) = xss4 at *
              have hC := hide (same_any (.slice da LK dc) (A 1) (bs 1) w4 (unhide hr4) (Rd.of_own ((unhide hx4).al 1 (by omega))))
              have cb := (unhide hx4).bxc 1 (by omega)
              clear hown hr4
              go_wp2_with fail
              refine (unhide hC).mono ?_
              rintro e' w5 ⟨rfl, k5n, hw5⟩
              have hx5 := hide ((unhide hx4).drewN k5n)
              rw [← hw5] at hx5
              clear hC hw5 k5n cb hx4
              obtain ⟨T, hT⟩ : ∃ T, Hid ((List.range n).map R4 = T) := ⟨_, rfl⟩
              have HO : Hid (w5.ownsRow W.heap.size 25 1 u6 n T) := by rw [Hid, ← unhide hT]; exact (unhide hx5).tow
              have hfz : W.heap.size ≤ w5.heap.size := (unhide hx5).fr
              have hnM : n < 1048577 := by have := unhide hnj; omega
              go_wp2_with (first | (at_builtin; refine wpList_append_own_at _ rfl _ _ 36 rfl W.heap.size 25 i0 (.slice none 0 0) 1 24 Try.underlying36 hi0 hz0 hz1 hz2 rfl (by decide) _ _ _ rfl ((unhide HO).alloc _) ⟨w5.heap.size, 0, none⟩ 1 1 [.slice da LK dc] rfl rfl (cell_one_new _ _ _) (by simp [Value.oneCell']) (by unfold maxLen; omega) (by omega) (by simp; omega) ?_))
              intro t7 w7 hown hgrow hnil hat
              have hx7 := hide ((unhide hx5).pushed (by omega) (by rw [unhide hRn, unhide hT]; exact hown) hgrow (by simpa using hat))
              have hlen7 : Hid ((bs 0).length + (bs 1).length + bulk (ps.drop (j + 1)) ≤ 16777216) := by have := unhide hlen; rw [Hid]; omega
              clear hown hgrow hnil hat HO hx5 hT hfz
              go_wp2
              go_roundg (gk - 1)
              case measure => have := unhide hj; omega
              case rel => exact ⟨j + 1, V, A, bs, R4, n + 1, xss4, by have := unhide hj; unfold Hid; omega, by go_num, ⟨by have := (unhide hnj); omega, unhide hlen7⟩, hx7⟩
            · by_cases kh : 6 < kind
              · have k5' : (kind == 5) = false := by rw [beq_eq_false_iff_ne]; omega
                have k6' : (kind == 6) = false := by rw [beq_eq_false_iff_ne]; omega
                have k0 : (0 : Int) ≤ kind := by omega
                have k0' : ¬ kind ≤ 6 := by omega
                have g1 := (unhide hg1).c1
                go_wp2
                go_quiet (fail)
                have hx3 := hide ((unhide hx1).drewN nq)
                have hg3 := hide ((unhide hg1).drewN nq)
                clear g1 hx1 hg1
                generalize wa.drewN nq = w3 at *
                have hC := hide (done_any (P 1) (V 1) (bs 1) w3 ((unhide hx3).wt 1 (by omega)) (by have := unhide hlen; omega))
                have g1 := (unhide hg3).c1
                go_wp2_with fail
                refine (unhide hC).mono ?_
                rintro e' w4 ⟨d, rfl, hown, hbel⟩
                obtain ⟨da, dc, he⟩ := row_shape hown
                obtain ⟨LK, hLK⟩ : ∃ L, Hid ((bs 1).length = L) := ⟨_, rfl⟩
                rw [unhide hLK] at he
                subst he
                have hx4 := hide ((unhide hx3).handed hown hbel (by have := unhide hlen; omega))
                clear hC hbel hx3 g1 hg3
                have hr4 : Hid (Rd w4 (.slice da LK dc) (bs 1)) := Rd.of_own hown
                have hRn : Hid (updF R n (.slice da LK dc) n = .slice da LK dc) := updF_at _ _ _
                generalize updF R n (.slice da LK dc) = R4 at *
                generalize updF xss n (bs 1) = xss4 at *
                have hC := hide (same_any (.slice da LK dc) (A 1) (bs 1) w4 (unhide hr4) (Rd.of_own ((unhide hx4).al 1 (by omega))))
                have cb := (unhide hx4).bxc 1 (by omega)
                clear hown hr4
                go_wp2_with fail
                refine (unhide hC).mono ?_
                rintro e' w5 ⟨rfl, k5n, hw5⟩
                have hx5 := hide ((unhide hx4).drewN k5n)
                rw [← hw5] at hx5
                clear hC hw5 k5n cb hx4
                obtain ⟨T, hT⟩ : ∃ T, Hid ((List.range n).map R4 = T) := ⟨_, rfl⟩
                have HO : Hid (w5.ownsRow W.heap.size 25 1 u6 n T) := by rw [Hid, ← unhide hT]; exact (unhide hx5).tow
                have hfz : W.heap.size ≤ w5.heap.size := (unhide hx5).fr
                have hnM : n < 1048577 := by have := unhide hnj; omega
                go_wp2_with (first | (at_builtin; refine wpList_append_own_at _ rfl _ _ 36 rfl W.heap.size 25 i0 (.slice none 0 0) 1 24 Try.underlying36 hi0 hz0 hz1 hz2 rfl (by decide) _ _ _ rfl ((unhide HO).alloc _) ⟨w5.heap.size, 0, none⟩ 1 1 [.slice da LK dc] rfl rfl (cell_one_new _ _ _) (by simp [Value.oneCell']) (by unfold maxLen; omega) (by omega) (by simp; omega) ?_))
                intro t7 w7 hown hgrow hnil hat
                have hx7 := hide ((unhide hx5).pushed (by omega) (by rw [unhide hRn, unhide hT]; exact hown) hgrow (by simpa using hat))
                have hlen7 : Hid ((bs 0).length + (bs 1).length + bulk (ps.drop (j + 1)) ≤ 16777216) := by have := unhide hlen; rw [Hid]; omega
                clear hown hgrow hnil hat HO hx5 hT hfz
                go_wp2
                go_roundg (gk - 1)
                case measure => have := unhide hj; omega
                case rel => exact ⟨j + 1, V, A, bs, R4, n + 1, xss4, by have := unhide hj; unfold Hid; omega, by go_num, ⟨by have := (unhide hnj); omega, unhide hlen7⟩, hx7⟩
              · have k0 : (0 : Int) ≤ kind := by omega
                have k7 : kind ≤ 6 := by omega
                have k5' : (kind == 5) = false := by rw [beq_eq_false_iff_ne]; exact k5
                have k6' : (kind == 6) = false := by rw [beq_eq_false_iff_ne]; exact k6
                have hbw : Hid ((bs 1).length + 10 + s.size ≤ 140737488355328) := by have := unhide hlen; rw [Hid]; omega
                have hpre : Hid (updF bs 1 (bs 1 ++ pform kind x s) = updF bs 1 (bs 1 ++ rform kind x s)) := by
                  rw [Hid, show rform kind x s = pform kind x s from if_neg (by omega)]
                have g1 := (unhide hg1).c1
                go_wp2
                go_quiet (fail)
                have hx3 := hide ((unhide hx1).drewN nq)
                have hg3 := hide ((unhide hg1).drewN nq)
                clear g1 hx1 hg1
                generalize wa.drewN nq = w3 at *
                have hC2 := put_any (P 1) (V 1) (bs 1) on kind x s w3 ((unhide hx3).wt 1 (by omega)) (by have := unhide hbw; have := unhide hlen; omega) hx64
                unfold PutV at hC2
                have hC2 := hide hC2
                have g0 := (unhide hg3).c0
                have g1 := (unhide hg3).c1
                have g2 := (unhide hg3).c2
                have g3 := (unhide hg3).c3
                go_wp2_with fail
                refine (unhide hC2).mono ?_
                rintro e' w4 ⟨rfl, v4, hW4, hT4⟩
                have hx4 := hide ((unhide hx3).wrote (k := 1) (by omega) hW4 hT4)
                have hg4 := hide ((unhide hg3).wrote (k := 1) (by omega) hT4)
                clear hC2 hW4 hT4 g0 g1 g2 g3 hx3 hg3
                have hbe : Hid (updF bs 1 (bs 1 ++ pform kind x s) = updF bs 1 (bs 1 ++ rform kind x s)) := unhide hpre
                rw [unhide hbe] at hx4
                generalize updF V 1 v4 = V4 at *
                have hxd := hide ((unhide hx4).below ((Below.refl _ _).drew))
                have hgd := hide ((unhide hg4).drewN 1)
                have hSd : (fun wx => wx.cell? ⟨gb, 0, none⟩ = some (.int .i64 on) ∧ wx.cell? ⟨gb, 1, none⟩ = some (.int .i64 kind) ∧ wx.cell? ⟨gb, 2, none⟩ = some (.int .u64 (x : Int)) ∧ wx.cell? ⟨gb, 3, none⟩ = some (.string s)) w4.drew := ⟨(unhide hgd).c0, (unhide hgd).c1, (unhide hgd).c2, (unhide hgd).c3⟩
                have hgd : Hid (GB V4 A u6 R n P bx gb on kind x s w4.drew) := hgd
                clear hx4 hg4 hbe
                go_wp2_with fail
                refine wp_region_held_drew (S := fun wx => wx.cell? ⟨gb, 0, none⟩ = some (.int .i64 on) ∧ wx.cell? ⟨gb, 1, none⟩ = some (.int .i64 kind) ∧ wx.cell? ⟨gb, 2, none⟩ = some (.int .u64 (x : Int)) ∧ wx.cell? ⟨gb, 3, none⟩ = some (.string s)) (by kernel_rfl) hSd (fun hHeld => ?_)
                clear hSd
                generalize w4.drew = wd at *
                have hCr := putRef_any W.heap.size (A 1) (bs 1) on kind x s wd ((unhide hxd).al 1 (by omega)) (unhide hxd).fr (by have := unhide hlen; omega) hx64
                unfold PutV at hCr
                have hCr := hide hCr
                refine wpAnyH_take (i := 0) (oi := _) (v := .int .i64 1) rfl (by kernel_rfl) (by kernel_rfl) (by kernel_rfl) (fun _ _ _ h => h) (Or.inl ⟨by rfl, (by intro w hSw; go_simp)⟩) (by assumption) ?_
                refine wpAnyH_take (i := 1) (oi := _) (v := .int .i64 1) rfl (by kernel_rfl) (by kernel_rfl) (by kernel_rfl) (fun _ _ _ h => h) (Or.inl ⟨by rfl, (by intro w hSw; go_simp)⟩) (by assumption) ?_
                refine wpAnyH_take (i := 2) (oi := _) (v := .pointer (some ⟨bx, 1, none⟩)) rfl (by kernel_rfl) (by kernel_rfl) (by kernel_rfl) (fun _ _ _ h => h) (Or.inl ⟨by rfl, (by intro w hSw; go_simp)⟩) (by assumption) ?_
                go_simp
                refine wpAnyH_take (i := 4) (oi := _) (v := .agg #[.int .i64 on, .int .i64 kind, .int .u64 (x : Int), .string s]) rfl (by kernel_rfl) (by kernel_rfl) (by kernel_rfl) (fun _ _ _ h => h) (Or.inl ⟨by rfl, (by intro w hSw; obtain ⟨g0, g1, g2, g3⟩ := hSw; go_simp)⟩) (by assumption) ?_
                go_simp
                refine wpAnyH_ready (rs := [3]) (by kernel_rfl) (by simp) ?_
                refine AllReadyH.cons (o := _) rfl (fun K hK => ?_) AllReadyH.nil
                have hcq := (unhide hxd).bxc 1 (by omega)
                go_simp
                refine hK.out _ _ hHeld (fun _ => ?_)
                clear hK K hcq
                refine wpAnyH_ready (rs := [5]) (by kernel_rfl) (by simp) ?_
                refine AllReadyH.cons (o := _) rfl (fun K hK => ?_) AllReadyH.nil
                go_simp
                refine (unhide hCr).mono ?_
                rintro e' w5 ⟨l5, rfl, hRG⟩
                obtain ⟨la, lc, hl5⟩ := row_shape hRG.own
                obtain ⟨ll, hll⟩ : ∃ ll, Hid ((bs 1 ++ rform kind x s).length = ll) := ⟨_, rfl⟩
                rw [unhide hll] at hl5
                subst hl5
                have hgA : ¬ (A 1).ownBlock = some gb := fun q => (unhide hgd).far (1 + 2) (by rw [fam_A (by omega)]; exact q)
                have hbA : ¬ (A 1).ownBlock = some bx := fun q => (unhide hxd).ba (1 + 2) (by rw [fam_A (by omega)]; exact q)
                have hg5 : ∀ i, w5.cell? ⟨gb, i, none⟩ = wd.cell? ⟨gb, i, none⟩ := fun i => hRG.fr.cell (a := ⟨gb, i, none⟩) (unhide hgd).lt hgA
                have hS5 : (fun wx => wx.cell? ⟨gb, 0, none⟩ = some (.int .i64 on) ∧ wx.cell? ⟨gb, 1, none⟩ = some (.int .i64 kind) ∧ wx.cell? ⟨gb, 2, none⟩ = some (.int .u64 (x : Int)) ∧ wx.cell? ⟨gb, 3, none⟩ = some (.string s)) w5 := ⟨(hg5 0).trans hHeld.1, (hg5 1).trans hHeld.2.1, (hg5 2).trans hHeld.2.2.1, (hg5 3).trans hHeld.2.2.2⟩
                have hq5 : w5.cell? ⟨bx, 1, none⟩ = some (A 1) := (hRG.fr.cell (a := ⟨bx, 1, none⟩) (unhide hxd).bl.2 hbA).trans ((unhide hxd).bxc 1 (by omega))
                have hf5 : w5.frozen? ⟨bx, 1, none⟩ = false := (hRG.fr.frozen (a := ⟨bx, 1, none⟩) (unhide hxd).bl.2 hbA).trans ((unhide hxd).bxf 1 (by omega))
                have hx6 := hide ((unhide hxd).grew (k := 1) (by omega) hRG)
                have hS6 : (fun wx => wx.cell? ⟨gb, 0, none⟩ = some (.int .i64 on) ∧ wx.cell? ⟨gb, 1, none⟩ = some (.int .i64 kind) ∧ wx.cell? ⟨gb, 2, none⟩ = some (.int .u64 (x : Int)) ∧ wx.cell? ⟨gb, 3, none⟩ = some (.string s)) (w5.setCell ⟨bx, 1, none⟩ (.slice la ll lc)) := by
                  have hne : ∀ i, (w5.setCell ⟨bx, 1, none⟩ (.slice la ll lc)).cell? ⟨gb, i, none⟩ = w5.cell? ⟨gb, i, none⟩ := fun i => World.cell?_setCell_other _ _ _ _ (fun e => (unhide hgd).bne (congrArg Addr.block e).symm)
                  exact ⟨(hne 0).trans hS5.1, (hne 1).trans hS5.2.1, (hne 2).trans hS5.2.2.1, (hne 3).trans hS5.2.2.2⟩
                clear hCr hRG hgA hbA hg5 hxd
                go_simp
                refine hK.out _ _ hS5 (fun _ => ?_)
                clear hK K
                refine wpAnyH_take (i := 6) (oi := _) (v := .pointer (some ⟨bx, 1, none⟩)) rfl (by kernel_rfl) (by kernel_rfl) (by kernel_rfl) (fun _ _ _ h => h) (Or.inl ⟨by rfl, (by intro w hSw; go_simp)⟩) (by assumption) ?_
                go_simp
                refine wpAnyH_ready (rs := [7]) (by kernel_rfl) (by simp) ?_
                refine AllReadyH.cons (o := _) rfl (fun K hK => ?_) AllReadyH.nil
                go_simp
                refine hK.out _ _ hS6 (fun _ => ?_)
                clear hK K
                refine wpAnyH_done (by kernel_rfl) ?_ _
                have hlen6 : Hid ((updF bs 1 (bs 1 ++ rform kind x s) 0).length + (updF bs 1 (bs 1 ++ rform kind x s) 1).length + bulk (ps.drop (j + 1)) ≤ 16777216) := by
                  have h1 := unhide hlen
                  have h2 := rform_le kind x s
                  rw [Hid]
                  unfold updF
                  simp
                  omega
                clear hHeld hS5 hS6 hq5 hf5 hgd hpre hll
                generalize updF bs 1 (bs 1 ++ rform kind x s) = bs6 at *
                generalize updF A 1 (.slice la ll lc) = A6 at *
                go_simp
                go_wp2
                go_roundg (gk - 1)
                case measure => have := unhide hj; omega
                case rel => exact ⟨j + 1, V4, A6, bs6, R, n, xss, by have := unhide hj; unfold Hid; omega, by go_num, ⟨by have := (unhide hnj); omega, unhide hlen6⟩, hx6⟩
    · have hjM : M = j := by have := unhide hj; omega
      have i1' : ¬ (j : Int) < (M : Int) := by omega
      have c0 := (unhide hS).bxc 0 (by omega)
      have c1 := (unhide hS).bxc 1 (by omega)
      obtain ⟨a0, z0, hA0⟩ := row_shape ((unhide hS).al 0 (by omega))
      obtain ⟨a1, z1, hA1⟩ := row_shape ((unhide hS).al 1 (by omega))
      have hE := (ends_any (unhide hS) (fun k hk => by
        have h1 := (unhide hnl).2
        have hk2 : k = 0 ∨ k = 1 := by omega
        rcases hk2 with rfl | rfl <;> omega) (by have := (unhide hnl).1; omega))
      rw [hA0, hA1] at hE
      rw [hA0] at c0
      rw [hA1] at c1
      generalize (bs 0).length = L0 at *
      generalize (bs 1).length = L1 at *
      have HE := hide hE
      clear hS hnl hE hA0 hA1
      go_wp2_with fail
      refine (unhide HE).mono ?_
      rintro e' w3 ⟨rfl, hb3⟩
      have HB3 := hide hb3
      clear hb3 HE c0 c1
      go_wp2
      go_ret
      exact ⟨rfl, unhide HB3⟩
end Go.Proofs.Ytpenhefhedmhiaa
