/-
  The document's Merge.
-/
import Derived.Test.YteeafakgiahenaaPCp
import Derived.Test.YteeafakgiahenaaPMg1
namespace Go.Proofs.Yteeafakgiahenaa
open Go.RowKit
set_option linter.unusedVariables false
set_option linter.unusedSimpArgs false
def mrgL (f g : List (List Sp)) (n : Nat) : List Sp := (List.range (max (szP f n) (szP g n))).map (fun (k : Nat) => tog (atP f n k) (atP g n k))
/-- Two profiles together. -/
def mrg (f g : List (List Sp)) : List (List Sp) := (List.range (max f.length g.length)).map (mrgL f g)
theorem mrg_len (f g : List (List Sp)) : (mrg f g).length = max f.length g.length := by simp [mrg]
theorem mrg_at {f g : List (List Sp)} {i : Nat} (h : i < max f.length g.length) : (mrg f g)[i]? = some (mrgL f g i) := by simp [mrg, h]
theorem mrgL_len (f g : List (List Sp)) (n : Nat) : (mrgL f g n).length = max (szP f n) (szP g n) := by simp [mrgL]
theorem mrgL_at {f g : List (List Sp)} {n k : Nat} {x : Sp} (h : (mrgL f g n)[k]? = some x) : tog (atP f n k) (atP g n k) = x := by
  have hk := (List.getElem?_eq_some_iff.1 h).1
  rw [mrgL_len] at hk
  simp [mrgL, hk] at h
  exact h
theorem szP_le {f : List (List Sp)} {B : Nat} (h : ∀ l ∈ f, l.length ≤ B) (n : Int) : szP f n ≤ B := by
  unfold szP
  split
  · omega
  · cases e : f[n.toNat]? with
    | none => simp
    | some l => simpa using h l (List.mem_of_getElem? e)
/-- All spots have numbers of their kinds. -/
def OkF (f : List (List Sp)) : Prop := ∀ l ∈ f, ∀ s ∈ l, okS s
theorem okS_z : okS spZ := by unfold okS spZ; simp
theorem atP_ok {f : List (List Sp)} (h : OkF f) (n k : Int) : okS (atP f n k) := by
  unfold atP
  split
  · exact okS_z
  · cases e : f[n.toNat]? with
    | none => simpa using okS_z
    | some l =>
      cases e2 : l[k.toNat]? with
      | none => simpa [e2] using okS_z
      | some s => simpa [e2] using h l (List.mem_of_getElem? e) s (List.mem_of_getElem? e2)
theorem Gx.on {T : Type} {w wr w' : World} {sz : Nat} {en : T → List Value} {l : List T} {v : Value} (h : Gx w sz en l v wr) (k : Below wr.heap.size wr w') : Gx w sz en l v w' :=
  ⟨h.1.fr (Fr.of_below (S := fun _ => False) k) (fun _ _ e => e), bl_past h.2.1 k, h.2.2⟩
theorem box4 (w : World) (cs : Array Value) (t1 : TypeId) : Below w.heap.size w (w.alloc (.cells cs t1)) := (Below.refl _ w).alloc (Nat.le_refl _) _
set_option maxRecDepth 100000 in
set_option maxHeartbeats 12800000 in
theorem refMerge_any {w : World} {av bv : Value} {f g : List (List Sp)} (ha : PfV w av f) (hb : PfV w bv g) (hN : f.length ≤ 5864062014634) (hM : ∀ l ∈ f, l.length ≤ 5864062014634) (hN2 : g.length ≤ 5864062014634) (hM2 : ∀ l ∈ g, l.length ≤ 5864062014634) (hKA : OkF f) (hKB : OkF g) :
    Calls Try.prog 9 #[.agg #[av], .agg #[bv]] w fun e w' => ∃ gv vs, e = .returned (.agg #[gv]) ∧ SO (fun k => w.heap.size ≤ k) w' gv (mrg f g) vs ∧ Below w.heap.size w w' := by
  obtain ⟨a, acap, rfl, ha1, ha2⟩ := ha.shape
  obtain ⟨b, bcap, rfl, hb1, hb2⟩ := hb.shape
  have HKA := hide hKA
  have HKB := hide hKB
  have HPW := hide (fun W (hW : Below w.heap.size w W) => And.intro (ha.below hW (Nat.le_refl _)) (hb.below hW (Nat.le_refl _)))
  have HA := hide (fun i l (hl : f[i]? = some l) => ha.row hl)
  have HB := hide (fun i l (hl : g[i]? = some l) => hb.row hl)
  have HM := hide hM
  have HM2 := hide hM2
  unfold maxLen at ha2 hb2
  clear ha hb hM hM2 hKA hKB
  obtain ⟨LA, hLA⟩ : ∃ L, Hid (f.length = L) := ⟨_, hide rfl⟩
  obtain ⟨LB, hLB⟩ : ∃ L, Hid (g.length = L) := ⟨_, hide rfl⟩
  rw [unhide hLA] at ha1 hN HPW ⊢
  rw [unhide hLB] at hb1 hN2 HPW ⊢
  obtain ⟨M, hMM⟩ : ∃ M, Hid (max LA LB = M) := ⟨_, hide rfl⟩
  have hMA : LA ≤ M := by rw [← unhide hMM]; omega
  have hMB : LB ≤ M := by rw [← unhide hMM]; omega
  have HX := hide (NS.start2 w (.slice a LA acap) (.slice b LB bcap))
  rw [show ([] : List (List Sp)) = (mrg f g).take 0 from rfl] at HX
  go_enter Try.func9, Try.ntmps9
  go_wp2_with fail
  go_loopg [6] M (fun gg t6 wr => ∃ (i : Nat) (gv : Value) (vs : List Value), Hid (i + gg = M) ∧ t6 = .int .i64 (i : Int) ∧ Hid (NS w [.slice a LA acap, .slice b LB bcap] ((mrg f g).take i) gv vs wr))
  case atStart => exact ⟨0, _, _, by unfold Hid; omega, rfl, HX⟩
  case round =>
    clear HX
    obtain ⟨i, gv, vs, hi, rfl, hS⟩ := hrel
    obtain ⟨c0, f0, z0⟩ := blk_cells ((unhide hS).bs 0 _ rfl)
    obtain ⟨c1, f1, z1⟩ := blk_cells ((unhide hS).bs 1 _ rfl)
    obtain ⟨c2, f2, z2⟩ := blk_cells (unhide hS).b1
    obtain ⟨c3, f3, z3⟩ := blk_cells (unhide hS).b2
    have q0 := c0 0
    have q1 := c1 0
    have q2 := c2 0
    have q3 := c3 0
    have g2 := f2 0
    have g3 := f3 0
    simp at q0 q1 q2 q3 g2 g3 z0 z1 z2 z3
    clear c0 c1 c2 c3 f0 f1 f2 f3
    have i0 : (0 : Int) ≤ (i : Int) := by omega
    by_cases hlt : i < M
    · obtain ⟨m, hmm⟩ : ∃ m, Hid (mrgL f g i = m) := ⟨_, hide rfl⟩
      obtain ⟨N, hNN⟩ : ∃ N, Hid (m.length = N) := ⟨_, hide rfl⟩
      have hNe : N = max (szP f i) (szP g i) := by rw [← unhide hNN, ← unhide hmm, mrgL_len]
      have hNl : N ≤ 5864062014634 := by
        have h1 := szP_le (unhide HM) (i : Int)
        have h2 := szP_le (unhide HM2) (i : Int)
        omega
      have HSY := hide (fun W (hW : Below wr.heap.size wr W) => (show W.cell? ⟨w.heap.size, 0, none⟩ = some (.slice a LA acap) ∧ W.cell? ⟨w.heap.size + 1, 0, none⟩ = some (.slice b LB bcap) from ⟨(hW.cell (p := ⟨w.heap.size, 0, none⟩) z0).trans q0, (hW.cell (p := ⟨w.heap.size + 1, 0, none⟩) z1).trans q1⟩))
      have HPF := hide (fun W (hW : Below wr.heap.size wr W) => unhide HPW W (bl_past (unhide hS).bl hW))
      have HG : Hid (Gx wr 4 enS (m.take 0) (.slice none 0 0) wr) := ⟨by simpa [flt] using Ro.nil _ _, Below.refl _ _, by simp [Value.ownBlock]⟩
      obtain ⟨G0, hG0⟩ : ∃ G0 : Nat, Hid (G0 = gk) := ⟨_, hide rfl⟩
      by_cases hA : i < LA
      · have hil : i < f.length := by rw [unhide hLA]; exact hA
        obtain ⟨p, hp⟩ : ∃ p, f[i]? = some p := ⟨_, List.getElem?_eq_getElem hil⟩
        obtain ⟨ab, ao, la, lc, ea, ha4, ca, _, ha5, ha6⟩ := unhide HA i p hp
        have hsa := szP_at hp
        have kA : wr.cell? ⟨ab, ao + i, none⟩ = some (.slice la p.length lc) := ((unhide hS).bl.cell (p := ⟨ab, ao + i, none⟩) ha4).trans ca
        have kAz : ab < wr.heap.size := Nat.lt_of_lt_of_le ha4 (unhide hS).bl.size
        obtain ⟨PA, hPA⟩ : ∃ N, Hid (p.length = N) := ⟨_, hide rfl⟩
        rw [unhide hPA] at kA hsa ha5
        subst ea
        have i1 : (i : Int) < (LA : Int) := by omega
        clear hp ca hil
        by_cases hB : i < LB
        · have him : i < g.length := by rw [unhide hLB]; exact hB
          obtain ⟨q, hq⟩ : ∃ q, g[i]? = some q := ⟨_, List.getElem?_eq_getElem him⟩
          obtain ⟨bb, bo, lb, ld, eb, hb4, cb, _, hb5, hb6⟩ := unhide HB i q hq
          have hsb := szP_at hq
          have kB : wr.cell? ⟨bb, bo + i, none⟩ = some (.slice lb q.length ld) := ((unhide hS).bl.cell (p := ⟨bb, bo + i, none⟩) hb4).trans cb
          have kBz : bb < wr.heap.size := Nat.lt_of_lt_of_le hb4 (unhide hS).bl.size
          obtain ⟨PB, hPB⟩ : ∃ N, Hid (q.length = N) := ⟨_, hide rfl⟩
          rw [unhide hPB] at kB hsb hb5
          subst eb
          have i2 : (i : Int) < (LB : Int) := by omega
          clear hq cb him
          by_cases hPQ : PA < PB
          · have d3 : (PA : Int) < (PB : Int) := by omega
            obtain rfl : N = PB := by omega
            clear hNe hsa hsb
            go_wp2_with fail
            clear kA kAz kB kBz
            clear q0 q1 q2 q3 g2 g3 z0 z1 z2 z3
            obtain ⟨Y, hY⟩ : ∃ Y : World, Y = wr := ⟨_, rfl⟩
            subst hY
            go_loopg [8, 9] N (fun g t8 t9 wq => ∃ (j : Nat) (cv : Value), Hid (j + g = N) ∧ t8 = cv ∧ t9 = .int .i64 (j : Int) ∧ Hid (Gx Y 4 enS (m.take j) cv wq))
            case atStart => exact ⟨0, _, by unfold Hid; omega, rfl, rfl, HG⟩
            case round =>
              clear HG
              obtain ⟨j, cv, hj, hcv, rfl, hG⟩ := hrel
              by_cases hjt : j < N
              · have hcv2 := hcv.symm
                subst hcv2
                have hjl : j < m.length := by rw [unhide hNN]; exact hjt
                obtain ⟨x, hx⟩ : ∃ x, m[j]? = some x := ⟨_, List.getElem?_eq_getElem hjl⟩
                have hxe : tog (atP f (i : Int) (j : Int)) (atP g (i : Int) (j : Int)) = x := mrgL_at (by rw [unhide hmm]; exact hx)
                have HSX := hide (fun W (hW : Below wr.heap.size wr W) => unhide HSY W (bl_past (unhide hG).2.1 hW))
                have HRA := hide (fun W (hW : Below wr.heap.size wr W) => refAt_any (unhide HPF W (bl_past (unhide hG).2.1 hW)).1 (i : Int) (j : Int))
                have HRB := hide (fun W (hW : Below wr.heap.size wr W) => refAt_any (unhide HPF W (bl_past (unhide hG).2.1 hW)).2 (i : Int) (j : Int))
                have HTG := hide (fun W => spots_any W (atP f (i : Int) (j : Int)) (atP g (i : Int) (j : Int)) (atP_ok (unhide HKA) _ _).1 (atP_ok (unhide HKB) _ _).1)
                rw [hxe] at HTG
                obtain ⟨xa, hxa⟩ : ∃ xa, Hid (atP f (i : Int) (j : Int) = xa) := ⟨_, hide rfl⟩
                obtain ⟨xb, hxb⟩ : ∃ xb, Hid (atP g (i : Int) (j : Int) = xb) := ⟨_, hide rfl⟩
                rw [unhide hxa] at HRA HTG
                rw [unhide hxb] at HRB HTG
                obtain ⟨x0, x1, x2, x3⟩ := x
                unfold spV at HRA HRB HTG
                simp only at HTG
                have j0 : (0 : Int) ≤ (j : Int) := by omega
                have j1 : (j : Int) < (N : Int) := by omega
                have htl : (m.take j).length = j := by simp; omega
                have HLB : Hid ((m.take j).length ≤ 5864062014634) := by rw [htl]; unfold Hid; omega
                have HXX := hide hx
                clear htl hx hxe hjl
                go_wp2_with fail
                refine wp_region_held_drew (S := (fun W => W.cell? ⟨w.heap.size, 0, none⟩ = some (.slice (some ⟨ab, ao, none⟩) LA acap) ∧ W.cell? ⟨w.heap.size + 1, 0, none⟩ = some (.slice (some ⟨bb, bo, none⟩) LB bcap))) (by kernel_rfl) (unhide HSX _ (bl_drew _)) (fun hHeld => ?_)
                clear hHeld
                refine wpAnyH_take (i := 0) (oi := _) (v := cv) rfl (by kernel_rfl) (by kernel_rfl) (by kernel_rfl) (fun _ _ _ h => h) (Or.inl ⟨by rfl, (by intro w' hSw; obtain ⟨s0, s1⟩ := hSw; go_simp)⟩) (unhide HSX _ (bl_drew _)) ?_
                go_simp
                refine wpAnyH_take (i := 1) (oi := _) (v := .agg #[.slice (some ⟨ab, ao, none⟩) LA acap]) rfl (by kernel_rfl) (by kernel_rfl) (by kernel_rfl) (fun _ _ _ h => h) (Or.inl ⟨by rfl, (by intro w' hSw; obtain ⟨s0, s1⟩ := hSw; go_simp)⟩) (unhide HSX _ (bl_drew _)) ?_
                go_simp
                refine wpAnyH_take (i := 2) (oi := _) (v := .int .i64 (i : Int)) rfl (by kernel_rfl) (by kernel_rfl) (by kernel_rfl) (fun _ _ _ h => h) (Or.inl ⟨by rfl, (by intro w' hSw; obtain ⟨s0, s1⟩ := hSw; go_simp)⟩) (unhide HSX _ (bl_drew _)) ?_
                go_simp
                refine wpAnyH_take (i := 3) (oi := _) (v := .int .i64 (j : Int)) rfl (by kernel_rfl) (by kernel_rfl) (by kernel_rfl) (fun _ _ _ h => h) (Or.inl ⟨by rfl, (by intro w' hSw; obtain ⟨s0, s1⟩ := hSw; go_simp)⟩) (unhide HSX _ (bl_drew _)) ?_
                go_simp
                refine wpAnyH_take (i := 5) (oi := _) (v := .agg #[.slice (some ⟨bb, bo, none⟩) LB bcap]) rfl (by kernel_rfl) (by kernel_rfl) (by kernel_rfl) (fun _ _ _ h => h) (Or.inl ⟨by rfl, (by intro w' hSw; obtain ⟨s0, s1⟩ := hSw; go_simp)⟩) (unhide HSX _ (bl_drew _)) ?_
                go_simp
                refine wpAnyH_take (i := 6) (oi := _) (v := .int .i64 (i : Int)) rfl (by kernel_rfl) (by kernel_rfl) (by kernel_rfl) (fun _ _ _ h => h) (Or.inl ⟨by rfl, (by intro w' hSw; obtain ⟨s0, s1⟩ := hSw; go_simp)⟩) (unhide HSX _ (bl_drew _)) ?_
                go_simp
                refine wpAnyH_take (i := 7) (oi := _) (v := .int .i64 (j : Int)) rfl (by kernel_rfl) (by kernel_rfl) (by kernel_rfl) (fun _ _ _ h => h) (Or.inl ⟨by rfl, (by intro w' hSw; obtain ⟨s0, s1⟩ := hSw; go_simp)⟩) (unhide HSX _ (bl_drew _)) ?_
                go_simp
                refine wpAnyH_ready (rs := [4]) (by kernel_rfl) (by simp) ?_
                refine AllReadyH.cons (o := _) rfl (fun K hK => ?_) AllReadyH.nil
                go_simp
                refine (unhide HRA _ (bl_drew _)).mono ?_
                rintro e w3 ⟨rfl, b3⟩
                have HB3 := hide (bl_past (bl_drew _) b3)
                clear b3
                go_simp
                refine hK.out _ _ (unhide HSX _ (unhide HB3)) (fun _ => ?_)
                clear hK K
                go_simp
                refine wpAnyH_ready (rs := [8]) (by kernel_rfl) (by simp) ?_
                refine AllReadyH.cons (o := _) rfl (fun K hK => ?_) AllReadyH.nil
                go_simp
                refine (unhide HRB _ (unhide HB3)).mono ?_
                rintro e w4 ⟨rfl, b4⟩
                have HB4 := hide (bl_past (unhide HB3) b4)
                clear b4
                go_simp
                refine hK.out _ _ (unhide HSX _ (unhide HB4)) (fun _ => ?_)
                clear hK K
                go_simp
                refine wpAnyH_ready (rs := [9]) (by kernel_rfl) (by simp) ?_
                refine AllReadyH.cons (o := _) rfl (fun K hK => ?_) AllReadyH.nil
                go_simp
                refine (unhide HTG w4).mono ?_
                rintro e w5 ⟨rfl, b5⟩
                have HB5 := hide (bl_past (unhide HB4) b5)
                clear b5
                go_simp
                refine hK.out _ _ (unhide HSX _ (unhide HB5)) (fun _ => ?_)
                clear hK K
                go_simp
                refine wpAnyH_ready (rs := [10]) (by kernel_rfl) (by simp) ?_
                refine AllReadyH.cons (o := _) rfl (fun K hK => ?_) AllReadyH.nil
                go_simp
                refine hK.out _ _ (unhide HSX _ (bl_past (unhide HB5) (box4 _ _ _))) (fun _ => ?_)
                clear hK K
                go_simp
                obtain ⟨i0r, hi0r, hz0r, hz1r, hz2r⟩ := info_parts infS
                have hG5 := (unhide hG).on (unhide HB5)
                have hG6 := hG5.on (box4 w5 #[.int .i64 x0, .int .u16 x1, .int .u16 x2, .int .i64 x3] 28)
                obtain ⟨v', w6, hrun, hr6, hg6, hat6⟩ := Ro.app (P := Try.prog) 33 33 28 i0r _ 4 24 Try.underlying33 hi0r hz0r hz1r hz2r rfl (by decide) hG6.1 ⟨w5.heap.size, 0, none⟩ 1 1 (enS ⟨x0, x1, x2, x3⟩) rfl (new_cells _ _ _) (by simp [enS, Value.oneCell']) (by omega) (by unfold maxLen; have := unhide HLB; omega) (by have := unhide HLB; omega)
                have HRUN := hide hrun
                have hG7 := hG5.push hr6 rfl hg6 (by simpa using hat6)
                rw [← take_push (unhide HXX)] at hG7
                have HG7 := hide hG7
                have HS6 := hide (unhide HSY _ hG7.2.1)
                clear hrun hr6 hg6 hat6 hG5 hG6 hG7 hi0r hz0r hz1r hz2r
                refine wpAnyH_ready (rs := [11]) (by kernel_rfl) (by simp) ?_
                refine AllReadyH.cons (o := _) rfl (fun K hK => ?_) AllReadyH.nil
                refine step_appRun rfl _ _ (by rfl) _ _ _ (by rfl) (by rfl) (unhide HRUN) ?_
                refine hK.out _ _ (unhide HS6) (fun _ => ?_)
                clear hK K
                go_simp
                refine wpAnyH_take (i := 12) (oi := _) (v := v') rfl (by kernel_rfl) (by kernel_rfl) (by kernel_rfl) (fun _ _ _ h => h) (Or.inl ⟨by rfl, (by intro w' hSw; obtain ⟨s0, s1⟩ := hSw; go_simp)⟩) (unhide HS6) ?_
                go_simp
                refine wpAnyH_done (by kernel_rfl) ?_ _
                go_wp2_with fail
                go_roundg (gk - 1)
                case measure => have := unhide hj; omega
                case rel => exact ⟨j + 1, v', by have := unhide hj; unfold Hid; omega, rfl, by go_num, HG7⟩
              · have hjN : j = N := by have := unhide hj; omega
                subst hjN
                have HLS := hide ((unhide hS).on (unhide hG).2.1)
                have HG1 := hide (unhide hG)
                rw [List.take_of_length_le (by rw [unhide hNN]; exact Nat.le_refl _)] at HG1
                obtain ⟨na, nc, en, hn1, hn2⟩ := (unhide HG1).1.shape
                rw [unhide hNN] at en
                rw [en] at hcv
                subst hcv
                have HR5 := hide (unhide HG1).1
                have hnbk := (unhide HG1).2.2
                rw [en] at HR5 hnbk
                have HNB := hide hnbk
                have HBY := hide (unhide HG1).2.1
                obtain ⟨c3, f3, z3⟩ := blk_cells (unhide HLS).b2
                have q3 := c3 0
                have g3 := f3 0
                simp at q3 g3 z3
                obtain ⟨ga, gc, eg, hg1, hg2⟩ := (unhide HLS).ow.row.shape
                have htl : ((mrg f g).take i).length = i := by rw [List.length_take, mrg_len, unhide hLA, unhide hLB]; omega
                rw [htl] at eg hg1
                subst eg
                have HOW := hide (unhide HLS).ow.row
                rw [htl] at HOW
                have hvl : vs.length = i := by have := (unhide HLS).ow.len; omega
                have HVL := hide hvl
                have HLB : Hid (vs.length ≤ 5864062014700) := by rw [hvl]; unfold Hid; omega
                have HOW2 : Hid (Ro wr 1 (.slice ga i gc) vs.length (flt enV vs)) := by rw [hvl]; exact HOW
                clear c3 f3 hG hnbk en hvl HG1 HOW
                go_wp2_with (first | (at_builtin; refine appR rfl _ _ rfl _ vs rfl ((unhide HOW2).keep (fun g hg => Below.heap_alloc _ _ _ ((unhide HOW2).lt g hg))) ⟨wr.heap.size, 0, none⟩ 1 (.slice na j nc) rfl rfl (new_cells _ _ _) (unhide HLB) ?_))
                intro v' w' hr hg hat
                obtain ⟨va, vc, ev, hv1, hv2⟩ := hr.shape
                subst ev
                have HLN : Hid (NS w [.slice (some ⟨ab, ao, none⟩) LA acap, .slice (some ⟨bb, bo, none⟩) LB bcap] ((mrg f g).take (i + 1)) (.slice va (vs.length + 1) vc) (vs ++ [.slice na j nc]) (w'.setCell ⟨w.heap.size + 1 + 1 + 1, 0, none⟩ (.slice va (vs.length + 1) vc))) := by
                  rw [take_push (mrg_at (f := f) (g := g) (i := i) (by rw [unhide hLA, unhide hLB]; omega)), unhide hmm]
                  have hb1 : Below wr.heap.size wr (wr.alloc (.cells #[.slice na j nc] 33)) := (Below.refl _ wr).alloc (Nat.le_refl _) _
                  refine (unhide hS).push (bl_past (unhide HBY) hb1) (u := .slice na j nc) (l := m) ?_ (fun k hk => ?_) hr ?_ hg (by simpa using hat)
                  · exact (unhide HR5).fr (Fr.of_below (S := fun _ => False) hb1) (fun _ _ e => e)
                  · exact ⟨unhide HNB k hk, Nat.lt_of_lt_of_le ((unhide HR5).lt k hk) hb1.size⟩
                  · rw [unhide HVL, htl]
                have fw : Fr (fun k => (Value.slice ga i gc).ownBlock = some k) (wr.alloc (.cells #[.slice na j nc] 33)) w' := (Fr.refl _ _).grown hg (fun k e => .inr e)
                have hgb : ∀ k, (Value.slice ga i gc).ownBlock = some k → w.heap.size + 2 + 2 ≤ k := (unhide hS).ow.rb
                have hz2 : w.heap.size + 1 + 1 + 1 < (wr.alloc (.cells #[.slice na j nc] 33)).heap.size := by simp; omega
                have y2 : w'.cell? ⟨w.heap.size + 1 + 1 + 1, 0, none⟩ = some (.slice ga i gc) := by
                  refine (fw.cell (a := ⟨w.heap.size + 1 + 1 + 1, 0, none⟩) hz2 (fun e => by have := hgb (w.heap.size + 1 + 1 + 1) e; omega)).trans ?_
                  exact (World.cell?_of_block (Below.heap_alloc _ _ _ z3)).trans q3
                have y3 : w'.frozen? ⟨w.heap.size + 1 + 1 + 1, 0, none⟩ = false := by
                  refine (fw.frozen (a := ⟨w.heap.size + 1 + 1 + 1, 0, none⟩) hz2 (fun e => by have := hgb (w.heap.size + 1 + 1 + 1) e; omega)).trans ?_
                  exact (World.frozen?_of_block (Below.heap_alloc _ _ _ z3)).trans g3
                have y4 := Nat.lt_of_lt_of_le hz2 fw.size
                clear hr hg hat fw hgb hz2 HR5 HNB HBY HLS q3 g3 z3 HOW2 HLB htl
                go_wp2_with fail
                go_roundg (G0 - 1)
                case measure => have h1 := unhide hG0; have h2 := unhide hi; omega
                case rel => exact ⟨i + 1, _, _, by have h1 := unhide hG0; have h2 := unhide hi; unfold Hid; omega, by go_num, HLN⟩
          · have d3 : ¬ PA < PB := hPQ
            obtain rfl : N = PA := by omega
            clear hNe hsa hsb
            go_wp2_with fail
            clear kA kAz kB kBz
            clear q0 q1 q2 q3 g2 g3 z0 z1 z2 z3
            obtain ⟨Y, hY⟩ : ∃ Y : World, Y = wr := ⟨_, rfl⟩
            subst hY
            go_loopg [8, 9] N (fun g t8 t9 wq => ∃ (j : Nat) (cv : Value), Hid (j + g = N) ∧ t8 = cv ∧ t9 = .int .i64 (j : Int) ∧ Hid (Gx Y 4 enS (m.take j) cv wq))
            case atStart => exact ⟨0, _, by unfold Hid; omega, rfl, rfl, HG⟩
            case round =>
              clear HG
              obtain ⟨j, cv, hj, hcv, rfl, hG⟩ := hrel
              by_cases hjt : j < N
              · have hcv2 := hcv.symm
                subst hcv2
                have hjl : j < m.length := by rw [unhide hNN]; exact hjt
                obtain ⟨x, hx⟩ : ∃ x, m[j]? = some x := ⟨_, List.getElem?_eq_getElem hjl⟩
                have hxe : tog (atP f (i : Int) (j : Int)) (atP g (i : Int) (j : Int)) = x := mrgL_at (by rw [unhide hmm]; exact hx)
                have HSX := hide (fun W (hW : Below wr.heap.size wr W) => unhide HSY W (bl_past (unhide hG).2.1 hW))
                have HRA := hide (fun W (hW : Below wr.heap.size wr W) => refAt_any (unhide HPF W (bl_past (unhide hG).2.1 hW)).1 (i : Int) (j : Int))
                have HRB := hide (fun W (hW : Below wr.heap.size wr W) => refAt_any (unhide HPF W (bl_past (unhide hG).2.1 hW)).2 (i : Int) (j : Int))
                have HTG := hide (fun W => spots_any W (atP f (i : Int) (j : Int)) (atP g (i : Int) (j : Int)) (atP_ok (unhide HKA) _ _).1 (atP_ok (unhide HKB) _ _).1)
                rw [hxe] at HTG
                obtain ⟨xa, hxa⟩ : ∃ xa, Hid (atP f (i : Int) (j : Int) = xa) := ⟨_, hide rfl⟩
                obtain ⟨xb, hxb⟩ : ∃ xb, Hid (atP g (i : Int) (j : Int) = xb) := ⟨_, hide rfl⟩
                rw [unhide hxa] at HRA HTG
                rw [unhide hxb] at HRB HTG
                obtain ⟨x0, x1, x2, x3⟩ := x
                unfold spV at HRA HRB HTG
                simp only at HTG
                have j0 : (0 : Int) ≤ (j : Int) := by omega
                have j1 : (j : Int) < (N : Int) := by omega
                have htl : (m.take j).length = j := by simp; omega
                have HLB : Hid ((m.take j).length ≤ 5864062014634) := by rw [htl]; unfold Hid; omega
                have HXX := hide hx
                clear htl hx hxe hjl
                go_wp2_with fail
                refine wp_region_held_drew (S := (fun W => W.cell? ⟨w.heap.size, 0, none⟩ = some (.slice (some ⟨ab, ao, none⟩) LA acap) ∧ W.cell? ⟨w.heap.size + 1, 0, none⟩ = some (.slice (some ⟨bb, bo, none⟩) LB bcap))) (by kernel_rfl) (unhide HSX _ (bl_drew _)) (fun hHeld => ?_)
                clear hHeld
                refine wpAnyH_take (i := 0) (oi := _) (v := cv) rfl (by kernel_rfl) (by kernel_rfl) (by kernel_rfl) (fun _ _ _ h => h) (Or.inl ⟨by rfl, (by intro w' hSw; obtain ⟨s0, s1⟩ := hSw; go_simp)⟩) (unhide HSX _ (bl_drew _)) ?_
                go_simp
                refine wpAnyH_take (i := 1) (oi := _) (v := .agg #[.slice (some ⟨ab, ao, none⟩) LA acap]) rfl (by kernel_rfl) (by kernel_rfl) (by kernel_rfl) (fun _ _ _ h => h) (Or.inl ⟨by rfl, (by intro w' hSw; obtain ⟨s0, s1⟩ := hSw; go_simp)⟩) (unhide HSX _ (bl_drew _)) ?_
                go_simp
                refine wpAnyH_take (i := 2) (oi := _) (v := .int .i64 (i : Int)) rfl (by kernel_rfl) (by kernel_rfl) (by kernel_rfl) (fun _ _ _ h => h) (Or.inl ⟨by rfl, (by intro w' hSw; obtain ⟨s0, s1⟩ := hSw; go_simp)⟩) (unhide HSX _ (bl_drew _)) ?_
                go_simp
                refine wpAnyH_take (i := 3) (oi := _) (v := .int .i64 (j : Int)) rfl (by kernel_rfl) (by kernel_rfl) (by kernel_rfl) (fun _ _ _ h => h) (Or.inl ⟨by rfl, (by intro w' hSw; obtain ⟨s0, s1⟩ := hSw; go_simp)⟩) (unhide HSX _ (bl_drew _)) ?_
                go_simp
                refine wpAnyH_take (i := 5) (oi := _) (v := .agg #[.slice (some ⟨bb, bo, none⟩) LB bcap]) rfl (by kernel_rfl) (by kernel_rfl) (by kernel_rfl) (fun _ _ _ h => h) (Or.inl ⟨by rfl, (by intro w' hSw; obtain ⟨s0, s1⟩ := hSw; go_simp)⟩) (unhide HSX _ (bl_drew _)) ?_
                go_simp
                refine wpAnyH_take (i := 6) (oi := _) (v := .int .i64 (i : Int)) rfl (by kernel_rfl) (by kernel_rfl) (by kernel_rfl) (fun _ _ _ h => h) (Or.inl ⟨by rfl, (by intro w' hSw; obtain ⟨s0, s1⟩ := hSw; go_simp)⟩) (unhide HSX _ (bl_drew _)) ?_
                go_simp
                refine wpAnyH_take (i := 7) (oi := _) (v := .int .i64 (j : Int)) rfl (by kernel_rfl) (by kernel_rfl) (by kernel_rfl) (fun _ _ _ h => h) (Or.inl ⟨by rfl, (by intro w' hSw; obtain ⟨s0, s1⟩ := hSw; go_simp)⟩) (unhide HSX _ (bl_drew _)) ?_
                go_simp
                refine wpAnyH_ready (rs := [4]) (by kernel_rfl) (by simp) ?_
                refine AllReadyH.cons (o := _) rfl (fun K hK => ?_) AllReadyH.nil
                go_simp
                refine (unhide HRA _ (bl_drew _)).mono ?_
                rintro e w3 ⟨rfl, b3⟩
                have HB3 := hide (bl_past (bl_drew _) b3)
                clear b3
                go_simp
                refine hK.out _ _ (unhide HSX _ (unhide HB3)) (fun _ => ?_)
                clear hK K
                go_simp
                refine wpAnyH_ready (rs := [8]) (by kernel_rfl) (by simp) ?_
                refine AllReadyH.cons (o := _) rfl (fun K hK => ?_) AllReadyH.nil
                go_simp
                refine (unhide HRB _ (unhide HB3)).mono ?_
                rintro e w4 ⟨rfl, b4⟩
                have HB4 := hide (bl_past (unhide HB3) b4)
                clear b4
                go_simp
                refine hK.out _ _ (unhide HSX _ (unhide HB4)) (fun _ => ?_)
                clear hK K
                go_simp
                refine wpAnyH_ready (rs := [9]) (by kernel_rfl) (by simp) ?_
                refine AllReadyH.cons (o := _) rfl (fun K hK => ?_) AllReadyH.nil
                go_simp
                refine (unhide HTG w4).mono ?_
                rintro e w5 ⟨rfl, b5⟩
                have HB5 := hide (bl_past (unhide HB4) b5)
                clear b5
                go_simp
                refine hK.out _ _ (unhide HSX _ (unhide HB5)) (fun _ => ?_)
                clear hK K
                go_simp
                refine wpAnyH_ready (rs := [10]) (by kernel_rfl) (by simp) ?_
                refine AllReadyH.cons (o := _) rfl (fun K hK => ?_) AllReadyH.nil
                go_simp
                refine hK.out _ _ (unhide HSX _ (bl_past (unhide HB5) (box4 _ _ _))) (fun _ => ?_)
                clear hK K
                go_simp
                obtain ⟨i0r, hi0r, hz0r, hz1r, hz2r⟩ := info_parts infS
                have hG5 := (unhide hG).on (unhide HB5)
                have hG6 := hG5.on (box4 w5 #[.int .i64 x0, .int .u16 x1, .int .u16 x2, .int .i64 x3] 28)
                obtain ⟨v', w6, hrun, hr6, hg6, hat6⟩ := Ro.app (P := Try.prog) 33 33 28 i0r _ 4 24 Try.underlying33 hi0r hz0r hz1r hz2r rfl (by decide) hG6.1 ⟨w5.heap.size, 0, none⟩ 1 1 (enS ⟨x0, x1, x2, x3⟩) rfl (new_cells _ _ _) (by simp [enS, Value.oneCell']) (by omega) (by unfold maxLen; have := unhide HLB; omega) (by have := unhide HLB; omega)
                have HRUN := hide hrun
                have hG7 := hG5.push hr6 rfl hg6 (by simpa using hat6)
                rw [← take_push (unhide HXX)] at hG7
                have HG7 := hide hG7
                have HS6 := hide (unhide HSY _ hG7.2.1)
                clear hrun hr6 hg6 hat6 hG5 hG6 hG7 hi0r hz0r hz1r hz2r
                refine wpAnyH_ready (rs := [11]) (by kernel_rfl) (by simp) ?_
                refine AllReadyH.cons (o := _) rfl (fun K hK => ?_) AllReadyH.nil
                refine step_appRun rfl _ _ (by rfl) _ _ _ (by rfl) (by rfl) (unhide HRUN) ?_
                refine hK.out _ _ (unhide HS6) (fun _ => ?_)
                clear hK K
                go_simp
                refine wpAnyH_take (i := 12) (oi := _) (v := v') rfl (by kernel_rfl) (by kernel_rfl) (by kernel_rfl) (fun _ _ _ h => h) (Or.inl ⟨by rfl, (by intro w' hSw; obtain ⟨s0, s1⟩ := hSw; go_simp)⟩) (unhide HS6) ?_
                go_simp
                refine wpAnyH_done (by kernel_rfl) ?_ _
                go_wp2_with fail
                go_roundg (gk - 1)
                case measure => have := unhide hj; omega
                case rel => exact ⟨j + 1, v', by have := unhide hj; unfold Hid; omega, rfl, by go_num, HG7⟩
              · have hjN : j = N := by have := unhide hj; omega
                subst hjN
                have HLS := hide ((unhide hS).on (unhide hG).2.1)
                have HG1 := hide (unhide hG)
                rw [List.take_of_length_le (by rw [unhide hNN]; exact Nat.le_refl _)] at HG1
                obtain ⟨na, nc, en, hn1, hn2⟩ := (unhide HG1).1.shape
                rw [unhide hNN] at en
                rw [en] at hcv
                subst hcv
                have HR5 := hide (unhide HG1).1
                have hnbk := (unhide HG1).2.2
                rw [en] at HR5 hnbk
                have HNB := hide hnbk
                have HBY := hide (unhide HG1).2.1
                obtain ⟨c3, f3, z3⟩ := blk_cells (unhide HLS).b2
                have q3 := c3 0
                have g3 := f3 0
                simp at q3 g3 z3
                obtain ⟨ga, gc, eg, hg1, hg2⟩ := (unhide HLS).ow.row.shape
                have htl : ((mrg f g).take i).length = i := by rw [List.length_take, mrg_len, unhide hLA, unhide hLB]; omega
                rw [htl] at eg hg1
                subst eg
                have HOW := hide (unhide HLS).ow.row
                rw [htl] at HOW
                have hvl : vs.length = i := by have := (unhide HLS).ow.len; omega
                have HVL := hide hvl
                have HLB : Hid (vs.length ≤ 5864062014700) := by rw [hvl]; unfold Hid; omega
                have HOW2 : Hid (Ro wr 1 (.slice ga i gc) vs.length (flt enV vs)) := by rw [hvl]; exact HOW
                clear c3 f3 hG hnbk en hvl HG1 HOW
                go_wp2_with (first | (at_builtin; refine appR rfl _ _ rfl _ vs rfl ((unhide HOW2).keep (fun g hg => Below.heap_alloc _ _ _ ((unhide HOW2).lt g hg))) ⟨wr.heap.size, 0, none⟩ 1 (.slice na j nc) rfl rfl (new_cells _ _ _) (unhide HLB) ?_))
                intro v' w' hr hg hat
                obtain ⟨va, vc, ev, hv1, hv2⟩ := hr.shape
                subst ev
                have HLN : Hid (NS w [.slice (some ⟨ab, ao, none⟩) LA acap, .slice (some ⟨bb, bo, none⟩) LB bcap] ((mrg f g).take (i + 1)) (.slice va (vs.length + 1) vc) (vs ++ [.slice na j nc]) (w'.setCell ⟨w.heap.size + 1 + 1 + 1, 0, none⟩ (.slice va (vs.length + 1) vc))) := by
                  rw [take_push (mrg_at (f := f) (g := g) (i := i) (by rw [unhide hLA, unhide hLB]; omega)), unhide hmm]
                  have hb1 : Below wr.heap.size wr (wr.alloc (.cells #[.slice na j nc] 33)) := (Below.refl _ wr).alloc (Nat.le_refl _) _
                  refine (unhide hS).push (bl_past (unhide HBY) hb1) (u := .slice na j nc) (l := m) ?_ (fun k hk => ?_) hr ?_ hg (by simpa using hat)
                  · exact (unhide HR5).fr (Fr.of_below (S := fun _ => False) hb1) (fun _ _ e => e)
                  · exact ⟨unhide HNB k hk, Nat.lt_of_lt_of_le ((unhide HR5).lt k hk) hb1.size⟩
                  · rw [unhide HVL, htl]
                have fw : Fr (fun k => (Value.slice ga i gc).ownBlock = some k) (wr.alloc (.cells #[.slice na j nc] 33)) w' := (Fr.refl _ _).grown hg (fun k e => .inr e)
                have hgb : ∀ k, (Value.slice ga i gc).ownBlock = some k → w.heap.size + 2 + 2 ≤ k := (unhide hS).ow.rb
                have hz2 : w.heap.size + 1 + 1 + 1 < (wr.alloc (.cells #[.slice na j nc] 33)).heap.size := by simp; omega
                have y2 : w'.cell? ⟨w.heap.size + 1 + 1 + 1, 0, none⟩ = some (.slice ga i gc) := by
                  refine (fw.cell (a := ⟨w.heap.size + 1 + 1 + 1, 0, none⟩) hz2 (fun e => by have := hgb (w.heap.size + 1 + 1 + 1) e; omega)).trans ?_
                  exact (World.cell?_of_block (Below.heap_alloc _ _ _ z3)).trans q3
                have y3 : w'.frozen? ⟨w.heap.size + 1 + 1 + 1, 0, none⟩ = false := by
                  refine (fw.frozen (a := ⟨w.heap.size + 1 + 1 + 1, 0, none⟩) hz2 (fun e => by have := hgb (w.heap.size + 1 + 1 + 1) e; omega)).trans ?_
                  exact (World.frozen?_of_block (Below.heap_alloc _ _ _ z3)).trans g3
                have y4 := Nat.lt_of_lt_of_le hz2 fw.size
                clear hr hg hat fw hgb hz2 HR5 HNB HBY HLS q3 g3 z3 HOW2 HLB htl
                go_wp2_with fail
                go_roundg (G0 - 1)
                case measure => have h1 := unhide hG0; have h2 := unhide hi; omega
                case rel => exact ⟨i + 1, _, _, by have h1 := unhide hG0; have h2 := unhide hi; unfold Hid; omega, by go_num, HLN⟩
        · have hsb : szP g (i : Int) = 0 := szP_no (.inr (by rw [unhide hLB]; omega))
          obtain rfl : N = PA := by omega
          have d2 : ¬ i < LB := hB
          clear hNe hsa hsb
          go_wp2_with fail
          clear kA kAz
          clear q0 q1 q2 q3 g2 g3 z0 z1 z2 z3
          obtain ⟨Y, hY⟩ : ∃ Y : World, Y = wr := ⟨_, rfl⟩
          subst hY
          go_loopg [8, 9] N (fun g t8 t9 wq => ∃ (j : Nat) (cv : Value), Hid (j + g = N) ∧ t8 = cv ∧ t9 = .int .i64 (j : Int) ∧ Hid (Gx Y 4 enS (m.take j) cv wq))
          case atStart => exact ⟨0, _, by unfold Hid; omega, rfl, rfl, HG⟩
          case round =>
            clear HG
            obtain ⟨j, cv, hj, hcv, rfl, hG⟩ := hrel
            by_cases hjt : j < N
            · have hcv2 := hcv.symm
              subst hcv2
              have hjl : j < m.length := by rw [unhide hNN]; exact hjt
              obtain ⟨x, hx⟩ : ∃ x, m[j]? = some x := ⟨_, List.getElem?_eq_getElem hjl⟩
              have hxe : tog (atP f (i : Int) (j : Int)) (atP g (i : Int) (j : Int)) = x := mrgL_at (by rw [unhide hmm]; exact hx)
              have HSX := hide (fun W (hW : Below wr.heap.size wr W) => unhide HSY W (bl_past (unhide hG).2.1 hW))
              have HRA := hide (fun W (hW : Below wr.heap.size wr W) => refAt_any (unhide HPF W (bl_past (unhide hG).2.1 hW)).1 (i : Int) (j : Int))
              have HRB := hide (fun W (hW : Below wr.heap.size wr W) => refAt_any (unhide HPF W (bl_past (unhide hG).2.1 hW)).2 (i : Int) (j : Int))
              have HTG := hide (fun W => spots_any W (atP f (i : Int) (j : Int)) (atP g (i : Int) (j : Int)) (atP_ok (unhide HKA) _ _).1 (atP_ok (unhide HKB) _ _).1)
              rw [hxe] at HTG
              obtain ⟨xa, hxa⟩ : ∃ xa, Hid (atP f (i : Int) (j : Int) = xa) := ⟨_, hide rfl⟩
              obtain ⟨xb, hxb⟩ : ∃ xb, Hid (atP g (i : Int) (j : Int) = xb) := ⟨_, hide rfl⟩
              rw [unhide hxa] at HRA HTG
              rw [unhide hxb] at HRB HTG
              obtain ⟨x0, x1, x2, x3⟩ := x
              unfold spV at HRA HRB HTG
              simp only at HTG
              have j0 : (0 : Int) ≤ (j : Int) := by omega
              have j1 : (j : Int) < (N : Int) := by omega
              have htl : (m.take j).length = j := by simp; omega
              have HLB : Hid ((m.take j).length ≤ 5864062014634) := by rw [htl]; unfold Hid; omega
              have HXX := hide hx
              clear htl hx hxe hjl
              go_wp2_with fail
              refine wp_region_held_drew (S := (fun W => W.cell? ⟨w.heap.size, 0, none⟩ = some (.slice (some ⟨ab, ao, none⟩) LA acap) ∧ W.cell? ⟨w.heap.size + 1, 0, none⟩ = some (.slice b LB bcap))) (by kernel_rfl) (unhide HSX _ (bl_drew _)) (fun hHeld => ?_)
              clear hHeld
              refine wpAnyH_take (i := 0) (oi := _) (v := cv) rfl (by kernel_rfl) (by kernel_rfl) (by kernel_rfl) (fun _ _ _ h => h) (Or.inl ⟨by rfl, (by intro w' hSw; obtain ⟨s0, s1⟩ := hSw; go_simp)⟩) (unhide HSX _ (bl_drew _)) ?_
              go_simp
              refine wpAnyH_take (i := 1) (oi := _) (v := .agg #[.slice (some ⟨ab, ao, none⟩) LA acap]) rfl (by kernel_rfl) (by kernel_rfl) (by kernel_rfl) (fun _ _ _ h => h) (Or.inl ⟨by rfl, (by intro w' hSw; obtain ⟨s0, s1⟩ := hSw; go_simp)⟩) (unhide HSX _ (bl_drew _)) ?_
              go_simp
              refine wpAnyH_take (i := 2) (oi := _) (v := .int .i64 (i : Int)) rfl (by kernel_rfl) (by kernel_rfl) (by kernel_rfl) (fun _ _ _ h => h) (Or.inl ⟨by rfl, (by intro w' hSw; obtain ⟨s0, s1⟩ := hSw; go_simp)⟩) (unhide HSX _ (bl_drew _)) ?_
              go_simp
              refine wpAnyH_take (i := 3) (oi := _) (v := .int .i64 (j : Int)) rfl (by kernel_rfl) (by kernel_rfl) (by kernel_rfl) (fun _ _ _ h => h) (Or.inl ⟨by rfl, (by intro w' hSw; obtain ⟨s0, s1⟩ := hSw; go_simp)⟩) (unhide HSX _ (bl_drew _)) ?_
              go_simp
              refine wpAnyH_take (i := 5) (oi := _) (v := .agg #[.slice b LB bcap]) rfl (by kernel_rfl) (by kernel_rfl) (by kernel_rfl) (fun _ _ _ h => h) (Or.inl ⟨by rfl, (by intro w' hSw; obtain ⟨s0, s1⟩ := hSw; go_simp)⟩) (unhide HSX _ (bl_drew _)) ?_
              go_simp
              refine wpAnyH_take (i := 6) (oi := _) (v := .int .i64 (i : Int)) rfl (by kernel_rfl) (by kernel_rfl) (by kernel_rfl) (fun _ _ _ h => h) (Or.inl ⟨by rfl, (by intro w' hSw; obtain ⟨s0, s1⟩ := hSw; go_simp)⟩) (unhide HSX _ (bl_drew _)) ?_
              go_simp
              refine wpAnyH_take (i := 7) (oi := _) (v := .int .i64 (j : Int)) rfl (by kernel_rfl) (by kernel_rfl) (by kernel_rfl) (fun _ _ _ h => h) (Or.inl ⟨by rfl, (by intro w' hSw; obtain ⟨s0, s1⟩ := hSw; go_simp)⟩) (unhide HSX _ (bl_drew _)) ?_
              go_simp
              refine wpAnyH_ready (rs := [4]) (by kernel_rfl) (by simp) ?_
              refine AllReadyH.cons (o := _) rfl (fun K hK => ?_) AllReadyH.nil
              go_simp
              refine (unhide HRA _ (bl_drew _)).mono ?_
              rintro e w3 ⟨rfl, b3⟩
              have HB3 := hide (bl_past (bl_drew _) b3)
              clear b3
              go_simp
              refine hK.out _ _ (unhide HSX _ (unhide HB3)) (fun _ => ?_)
              clear hK K
              go_simp
              refine wpAnyH_ready (rs := [8]) (by kernel_rfl) (by simp) ?_
              refine AllReadyH.cons (o := _) rfl (fun K hK => ?_) AllReadyH.nil
              go_simp
              refine (unhide HRB _ (unhide HB3)).mono ?_
              rintro e w4 ⟨rfl, b4⟩
              have HB4 := hide (bl_past (unhide HB3) b4)
              clear b4
              go_simp
              refine hK.out _ _ (unhide HSX _ (unhide HB4)) (fun _ => ?_)
              clear hK K
              go_simp
              refine wpAnyH_ready (rs := [9]) (by kernel_rfl) (by simp) ?_
              refine AllReadyH.cons (o := _) rfl (fun K hK => ?_) AllReadyH.nil
              go_simp
              refine (unhide HTG w4).mono ?_
              rintro e w5 ⟨rfl, b5⟩
              have HB5 := hide (bl_past (unhide HB4) b5)
              clear b5
              go_simp
              refine hK.out _ _ (unhide HSX _ (unhide HB5)) (fun _ => ?_)
              clear hK K
              go_simp
              refine wpAnyH_ready (rs := [10]) (by kernel_rfl) (by simp) ?_
              refine AllReadyH.cons (o := _) rfl (fun K hK => ?_) AllReadyH.nil
              go_simp
              refine hK.out _ _ (unhide HSX _ (bl_past (unhide HB5) (box4 _ _ _))) (fun _ => ?_)
              clear hK K
              go_simp
              obtain ⟨i0r, hi0r, hz0r, hz1r, hz2r⟩ := info_parts infS
              have hG5 := (unhide hG).on (unhide HB5)
              have hG6 := hG5.on (box4 w5 #[.int .i64 x0, .int .u16 x1, .int .u16 x2, .int .i64 x3] 28)
              obtain ⟨v', w6, hrun, hr6, hg6, hat6⟩ := Ro.app (P := Try.prog) 33 33 28 i0r _ 4 24 Try.underlying33 hi0r hz0r hz1r hz2r rfl (by decide) hG6.1 ⟨w5.heap.size, 0, none⟩ 1 1 (enS ⟨x0, x1, x2, x3⟩) rfl (new_cells _ _ _) (by simp [enS, Value.oneCell']) (by omega) (by unfold maxLen; have := unhide HLB; omega) (by have := unhide HLB; omega)
              have HRUN := hide hrun
              have hG7 := hG5.push hr6 rfl hg6 (by simpa using hat6)
              rw [← take_push (unhide HXX)] at hG7
              have HG7 := hide hG7
              have HS6 := hide (unhide HSY _ hG7.2.1)
              clear hrun hr6 hg6 hat6 hG5 hG6 hG7 hi0r hz0r hz1r hz2r
              refine wpAnyH_ready (rs := [11]) (by kernel_rfl) (by simp) ?_
              refine AllReadyH.cons (o := _) rfl (fun K hK => ?_) AllReadyH.nil
              refine step_appRun rfl _ _ (by rfl) _ _ _ (by rfl) (by rfl) (unhide HRUN) ?_
              refine hK.out _ _ (unhide HS6) (fun _ => ?_)
              clear hK K
              go_simp
              refine wpAnyH_take (i := 12) (oi := _) (v := v') rfl (by kernel_rfl) (by kernel_rfl) (by kernel_rfl) (fun _ _ _ h => h) (Or.inl ⟨by rfl, (by intro w' hSw; obtain ⟨s0, s1⟩ := hSw; go_simp)⟩) (unhide HS6) ?_
              go_simp
              refine wpAnyH_done (by kernel_rfl) ?_ _
              go_wp2_with fail
              go_roundg (gk - 1)
              case measure => have := unhide hj; omega
              case rel => exact ⟨j + 1, v', by have := unhide hj; unfold Hid; omega, rfl, by go_num, HG7⟩
            · have hjN : j = N := by have := unhide hj; omega
              subst hjN
              have HLS := hide ((unhide hS).on (unhide hG).2.1)
              have HG1 := hide (unhide hG)
              rw [List.take_of_length_le (by rw [unhide hNN]; exact Nat.le_refl _)] at HG1
              obtain ⟨na, nc, en, hn1, hn2⟩ := (unhide HG1).1.shape
              rw [unhide hNN] at en
              rw [en] at hcv
              subst hcv
              have HR5 := hide (unhide HG1).1
              have hnbk := (unhide HG1).2.2
              rw [en] at HR5 hnbk
              have HNB := hide hnbk
              have HBY := hide (unhide HG1).2.1
              obtain ⟨c3, f3, z3⟩ := blk_cells (unhide HLS).b2
              have q3 := c3 0
              have g3 := f3 0
              simp at q3 g3 z3
              obtain ⟨ga, gc, eg, hg1, hg2⟩ := (unhide HLS).ow.row.shape
              have htl : ((mrg f g).take i).length = i := by rw [List.length_take, mrg_len, unhide hLA, unhide hLB]; omega
              rw [htl] at eg hg1
              subst eg
              have HOW := hide (unhide HLS).ow.row
              rw [htl] at HOW
              have hvl : vs.length = i := by have := (unhide HLS).ow.len; omega
              have HVL := hide hvl
              have HLB : Hid (vs.length ≤ 5864062014700) := by rw [hvl]; unfold Hid; omega
              have HOW2 : Hid (Ro wr 1 (.slice ga i gc) vs.length (flt enV vs)) := by rw [hvl]; exact HOW
              clear c3 f3 hG hnbk en hvl HG1 HOW
              go_wp2_with (first | (at_builtin; refine appR rfl _ _ rfl _ vs rfl ((unhide HOW2).keep (fun g hg => Below.heap_alloc _ _ _ ((unhide HOW2).lt g hg))) ⟨wr.heap.size, 0, none⟩ 1 (.slice na j nc) rfl rfl (new_cells _ _ _) (unhide HLB) ?_))
              intro v' w' hr hg hat
              obtain ⟨va, vc, ev, hv1, hv2⟩ := hr.shape
              subst ev
              have HLN : Hid (NS w [.slice (some ⟨ab, ao, none⟩) LA acap, .slice b LB bcap] ((mrg f g).take (i + 1)) (.slice va (vs.length + 1) vc) (vs ++ [.slice na j nc]) (w'.setCell ⟨w.heap.size + 1 + 1 + 1, 0, none⟩ (.slice va (vs.length + 1) vc))) := by
                rw [take_push (mrg_at (f := f) (g := g) (i := i) (by rw [unhide hLA, unhide hLB]; omega)), unhide hmm]
                have hb1 : Below wr.heap.size wr (wr.alloc (.cells #[.slice na j nc] 33)) := (Below.refl _ wr).alloc (Nat.le_refl _) _
                refine (unhide hS).push (bl_past (unhide HBY) hb1) (u := .slice na j nc) (l := m) ?_ (fun k hk => ?_) hr ?_ hg (by simpa using hat)
                · exact (unhide HR5).fr (Fr.of_below (S := fun _ => False) hb1) (fun _ _ e => e)
                · exact ⟨unhide HNB k hk, Nat.lt_of_lt_of_le ((unhide HR5).lt k hk) hb1.size⟩
                · rw [unhide HVL, htl]
              have fw : Fr (fun k => (Value.slice ga i gc).ownBlock = some k) (wr.alloc (.cells #[.slice na j nc] 33)) w' := (Fr.refl _ _).grown hg (fun k e => .inr e)
              have hgb : ∀ k, (Value.slice ga i gc).ownBlock = some k → w.heap.size + 2 + 2 ≤ k := (unhide hS).ow.rb
              have hz2 : w.heap.size + 1 + 1 + 1 < (wr.alloc (.cells #[.slice na j nc] 33)).heap.size := by simp; omega
              have y2 : w'.cell? ⟨w.heap.size + 1 + 1 + 1, 0, none⟩ = some (.slice ga i gc) := by
                refine (fw.cell (a := ⟨w.heap.size + 1 + 1 + 1, 0, none⟩) hz2 (fun e => by have := hgb (w.heap.size + 1 + 1 + 1) e; omega)).trans ?_
                exact (World.cell?_of_block (Below.heap_alloc _ _ _ z3)).trans q3
              have y3 : w'.frozen? ⟨w.heap.size + 1 + 1 + 1, 0, none⟩ = false := by
                refine (fw.frozen (a := ⟨w.heap.size + 1 + 1 + 1, 0, none⟩) hz2 (fun e => by have := hgb (w.heap.size + 1 + 1 + 1) e; omega)).trans ?_
                exact (World.frozen?_of_block (Below.heap_alloc _ _ _ z3)).trans g3
              have y4 := Nat.lt_of_lt_of_le hz2 fw.size
              clear hr hg hat fw hgb hz2 HR5 HNB HBY HLS q3 g3 z3 HOW2 HLB htl
              go_wp2_with fail
              go_roundg (G0 - 1)
              case measure => have h1 := unhide hG0; have h2 := unhide hi; omega
              case rel => exact ⟨i + 1, _, _, by have h1 := unhide hG0; have h2 := unhide hi; unfold Hid; omega, by go_num, HLN⟩
      · have hB : i < LB := by have := unhide hMM; omega
        have hsa : szP f (i : Int) = 0 := szP_no (.inr (by rw [unhide hLA]; omega))
        have him : i < g.length := by rw [unhide hLB]; exact hB
        obtain ⟨q, hq⟩ : ∃ q, g[i]? = some q := ⟨_, List.getElem?_eq_getElem him⟩
        obtain ⟨bb, bo, lb, ld, eb, hb4, cb, _, hb5, hb6⟩ := unhide HB i q hq
        have hsb := szP_at hq
        have kB : wr.cell? ⟨bb, bo + i, none⟩ = some (.slice lb q.length ld) := ((unhide hS).bl.cell (p := ⟨bb, bo + i, none⟩) hb4).trans cb
        have kBz : bb < wr.heap.size := Nat.lt_of_lt_of_le hb4 (unhide hS).bl.size
        obtain ⟨PB, hPB⟩ : ∃ N, Hid (q.length = N) := ⟨_, hide rfl⟩
        rw [unhide hPB] at kB hsb hb5
        subst eb
        have i2 : (i : Int) < (LB : Int) := by omega
        have d1 : ¬ i < LA := hA
        obtain rfl : N = PB := by omega
        clear hq cb him hNe hsa hsb
        by_cases h0 : 0 < N
        · have d3 : (0 : Int) < (N : Int) := by omega
          go_wp2_with fail
          clear kB kBz
          clear q0 q1 q2 q3 g2 g3 z0 z1 z2 z3
          obtain ⟨Y, hY⟩ : ∃ Y : World, Y = wr := ⟨_, rfl⟩
          subst hY
          go_loopg [8, 9] N (fun g t8 t9 wq => ∃ (j : Nat) (cv : Value), Hid (j + g = N) ∧ t8 = cv ∧ t9 = .int .i64 (j : Int) ∧ Hid (Gx Y 4 enS (m.take j) cv wq))
          case atStart => exact ⟨0, _, by unfold Hid; omega, rfl, rfl, HG⟩
          case round =>
            clear HG
            obtain ⟨j, cv, hj, hcv, rfl, hG⟩ := hrel
            by_cases hjt : j < N
            · have hcv2 := hcv.symm
              subst hcv2
              have hjl : j < m.length := by rw [unhide hNN]; exact hjt
              obtain ⟨x, hx⟩ : ∃ x, m[j]? = some x := ⟨_, List.getElem?_eq_getElem hjl⟩
              have hxe : tog (atP f (i : Int) (j : Int)) (atP g (i : Int) (j : Int)) = x := mrgL_at (by rw [unhide hmm]; exact hx)
              have HSX := hide (fun W (hW : Below wr.heap.size wr W) => unhide HSY W (bl_past (unhide hG).2.1 hW))
              have HRA := hide (fun W (hW : Below wr.heap.size wr W) => refAt_any (unhide HPF W (bl_past (unhide hG).2.1 hW)).1 (i : Int) (j : Int))
              have HRB := hide (fun W (hW : Below wr.heap.size wr W) => refAt_any (unhide HPF W (bl_past (unhide hG).2.1 hW)).2 (i : Int) (j : Int))
              have HTG := hide (fun W => spots_any W (atP f (i : Int) (j : Int)) (atP g (i : Int) (j : Int)) (atP_ok (unhide HKA) _ _).1 (atP_ok (unhide HKB) _ _).1)
              rw [hxe] at HTG
              obtain ⟨xa, hxa⟩ : ∃ xa, Hid (atP f (i : Int) (j : Int) = xa) := ⟨_, hide rfl⟩
              obtain ⟨xb, hxb⟩ : ∃ xb, Hid (atP g (i : Int) (j : Int) = xb) := ⟨_, hide rfl⟩
              rw [unhide hxa] at HRA HTG
              rw [unhide hxb] at HRB HTG
              obtain ⟨x0, x1, x2, x3⟩ := x
              unfold spV at HRA HRB HTG
              simp only at HTG
              have j0 : (0 : Int) ≤ (j : Int) := by omega
              have j1 : (j : Int) < (N : Int) := by omega
              have htl : (m.take j).length = j := by simp; omega
              have HLB : Hid ((m.take j).length ≤ 5864062014634) := by rw [htl]; unfold Hid; omega
              have HXX := hide hx
              clear htl hx hxe hjl
              go_wp2_with fail
              refine wp_region_held_drew (S := (fun W => W.cell? ⟨w.heap.size, 0, none⟩ = some (.slice a LA acap) ∧ W.cell? ⟨w.heap.size + 1, 0, none⟩ = some (.slice (some ⟨bb, bo, none⟩) LB bcap))) (by kernel_rfl) (unhide HSX _ (bl_drew _)) (fun hHeld => ?_)
              clear hHeld
              refine wpAnyH_take (i := 0) (oi := _) (v := cv) rfl (by kernel_rfl) (by kernel_rfl) (by kernel_rfl) (fun _ _ _ h => h) (Or.inl ⟨by rfl, (by intro w' hSw; obtain ⟨s0, s1⟩ := hSw; go_simp)⟩) (unhide HSX _ (bl_drew _)) ?_
              go_simp
              refine wpAnyH_take (i := 1) (oi := _) (v := .agg #[.slice a LA acap]) rfl (by kernel_rfl) (by kernel_rfl) (by kernel_rfl) (fun _ _ _ h => h) (Or.inl ⟨by rfl, (by intro w' hSw; obtain ⟨s0, s1⟩ := hSw; go_simp)⟩) (unhide HSX _ (bl_drew _)) ?_
              go_simp
              refine wpAnyH_take (i := 2) (oi := _) (v := .int .i64 (i : Int)) rfl (by kernel_rfl) (by kernel_rfl) (by kernel_rfl) (fun _ _ _ h => h) (Or.inl ⟨by rfl, (by intro w' hSw; obtain ⟨s0, s1⟩ := hSw; go_simp)⟩) (unhide HSX _ (bl_drew _)) ?_
              go_simp
              refine wpAnyH_take (i := 3) (oi := _) (v := .int .i64 (j : Int)) rfl (by kernel_rfl) (by kernel_rfl) (by kernel_rfl) (fun _ _ _ h => h) (Or.inl ⟨by rfl, (by intro w' hSw; obtain ⟨s0, s1⟩ := hSw; go_simp)⟩) (unhide HSX _ (bl_drew _)) ?_
              go_simp
              refine wpAnyH_take (i := 5) (oi := _) (v := .agg #[.slice (some ⟨bb, bo, none⟩) LB bcap]) rfl (by kernel_rfl) (by kernel_rfl) (by kernel_rfl) (fun _ _ _ h => h) (Or.inl ⟨by rfl, (by intro w' hSw; obtain ⟨s0, s1⟩ := hSw; go_simp)⟩) (unhide HSX _ (bl_drew _)) ?_
              go_simp
              refine wpAnyH_take (i := 6) (oi := _) (v := .int .i64 (i : Int)) rfl (by kernel_rfl) (by kernel_rfl) (by kernel_rfl) (fun _ _ _ h => h) (Or.inl ⟨by rfl, (by intro w' hSw; obtain ⟨s0, s1⟩ := hSw; go_simp)⟩) (unhide HSX _ (bl_drew _)) ?_
              go_simp
              refine wpAnyH_take (i := 7) (oi := _) (v := .int .i64 (j : Int)) rfl (by kernel_rfl) (by kernel_rfl) (by kernel_rfl) (fun _ _ _ h => h) (Or.inl ⟨by rfl, (by intro w' hSw; obtain ⟨s0, s1⟩ := hSw; go_simp)⟩) (unhide HSX _ (bl_drew _)) ?_
              go_simp
              refine wpAnyH_ready (rs := [4]) (by kernel_rfl) (by simp) ?_
              refine AllReadyH.cons (o := _) rfl (fun K hK => ?_) AllReadyH.nil
              go_simp
              refine (unhide HRA _ (bl_drew _)).mono ?_
              rintro e w3 ⟨rfl, b3⟩
              have HB3 := hide (bl_past (bl_drew _) b3)
              clear b3
              go_simp
              refine hK.out _ _ (unhide HSX _ (unhide HB3)) (fun _ => ?_)
              clear hK K
              go_simp
              refine wpAnyH_ready (rs := [8]) (by kernel_rfl) (by simp) ?_
              refine AllReadyH.cons (o := _) rfl (fun K hK => ?_) AllReadyH.nil
              go_simp
              refine (unhide HRB _ (unhide HB3)).mono ?_
              rintro e w4 ⟨rfl, b4⟩
              have HB4 := hide (bl_past (unhide HB3) b4)
              clear b4
              go_simp
              refine hK.out _ _ (unhide HSX _ (unhide HB4)) (fun _ => ?_)
              clear hK K
              go_simp
              refine wpAnyH_ready (rs := [9]) (by kernel_rfl) (by simp) ?_
              refine AllReadyH.cons (o := _) rfl (fun K hK => ?_) AllReadyH.nil
              go_simp
              refine (unhide HTG w4).mono ?_
              rintro e w5 ⟨rfl, b5⟩
              have HB5 := hide (bl_past (unhide HB4) b5)
              clear b5
              go_simp
              refine hK.out _ _ (unhide HSX _ (unhide HB5)) (fun _ => ?_)
              clear hK K
              go_simp
              refine wpAnyH_ready (rs := [10]) (by kernel_rfl) (by simp) ?_
              refine AllReadyH.cons (o := _) rfl (fun K hK => ?_) AllReadyH.nil
              go_simp
              refine hK.out _ _ (unhide HSX _ (bl_past (unhide HB5) (box4 _ _ _))) (fun _ => ?_)
              clear hK K
              go_simp
              obtain ⟨i0r, hi0r, hz0r, hz1r, hz2r⟩ := info_parts infS
              have hG5 := (unhide hG).on (unhide HB5)
              have hG6 := hG5.on (box4 w5 #[.int .i64 x0, .int .u16 x1, .int .u16 x2, .int .i64 x3] 28)
              obtain ⟨v', w6, hrun, hr6, hg6, hat6⟩ := Ro.app (P := Try.prog) 33 33 28 i0r _ 4 24 Try.underlying33 hi0r hz0r hz1r hz2r rfl (by decide) hG6.1 ⟨w5.heap.size, 0, none⟩ 1 1 (enS ⟨x0, x1, x2, x3⟩) rfl (new_cells _ _ _) (by simp [enS, Value.oneCell']) (by omega) (by unfold maxLen; have := unhide HLB; omega) (by have := unhide HLB; omega)
              have HRUN := hide hrun
              have hG7 := hG5.push hr6 rfl hg6 (by simpa using hat6)
              rw [← take_push (unhide HXX)] at hG7
              have HG7 := hide hG7
              have HS6 := hide (unhide HSY _ hG7.2.1)
              clear hrun hr6 hg6 hat6 hG5 hG6 hG7 hi0r hz0r hz1r hz2r
              refine wpAnyH_ready (rs := [11]) (by kernel_rfl) (by simp) ?_
              refine AllReadyH.cons (o := _) rfl (fun K hK => ?_) AllReadyH.nil
              refine step_appRun rfl _ _ (by rfl) _ _ _ (by rfl) (by rfl) (unhide HRUN) ?_
              refine hK.out _ _ (unhide HS6) (fun _ => ?_)
              clear hK K
              go_simp
              refine wpAnyH_take (i := 12) (oi := _) (v := v') rfl (by kernel_rfl) (by kernel_rfl) (by kernel_rfl) (fun _ _ _ h => h) (Or.inl ⟨by rfl, (by intro w' hSw; obtain ⟨s0, s1⟩ := hSw; go_simp)⟩) (unhide HS6) ?_
              go_simp
              refine wpAnyH_done (by kernel_rfl) ?_ _
              go_wp2_with fail
              go_roundg (gk - 1)
              case measure => have := unhide hj; omega
              case rel => exact ⟨j + 1, v', by have := unhide hj; unfold Hid; omega, rfl, by go_num, HG7⟩
            · have hjN : j = N := by have := unhide hj; omega
              subst hjN
              have HLS := hide ((unhide hS).on (unhide hG).2.1)
              have HG1 := hide (unhide hG)
              rw [List.take_of_length_le (by rw [unhide hNN]; exact Nat.le_refl _)] at HG1
              obtain ⟨na, nc, en, hn1, hn2⟩ := (unhide HG1).1.shape
              rw [unhide hNN] at en
              rw [en] at hcv
              subst hcv
              have HR5 := hide (unhide HG1).1
              have hnbk := (unhide HG1).2.2
              rw [en] at HR5 hnbk
              have HNB := hide hnbk
              have HBY := hide (unhide HG1).2.1
              obtain ⟨c3, f3, z3⟩ := blk_cells (unhide HLS).b2
              have q3 := c3 0
              have g3 := f3 0
              simp at q3 g3 z3
              obtain ⟨ga, gc, eg, hg1, hg2⟩ := (unhide HLS).ow.row.shape
              have htl : ((mrg f g).take i).length = i := by rw [List.length_take, mrg_len, unhide hLA, unhide hLB]; omega
              rw [htl] at eg hg1
              subst eg
              have HOW := hide (unhide HLS).ow.row
              rw [htl] at HOW
              have hvl : vs.length = i := by have := (unhide HLS).ow.len; omega
              have HVL := hide hvl
              have HLB : Hid (vs.length ≤ 5864062014700) := by rw [hvl]; unfold Hid; omega
              have HOW2 : Hid (Ro wr 1 (.slice ga i gc) vs.length (flt enV vs)) := by rw [hvl]; exact HOW
              clear c3 f3 hG hnbk en hvl HG1 HOW
              go_wp2_with (first | (at_builtin; refine appR rfl _ _ rfl _ vs rfl ((unhide HOW2).keep (fun g hg => Below.heap_alloc _ _ _ ((unhide HOW2).lt g hg))) ⟨wr.heap.size, 0, none⟩ 1 (.slice na j nc) rfl rfl (new_cells _ _ _) (unhide HLB) ?_))
              intro v' w' hr hg hat
              obtain ⟨va, vc, ev, hv1, hv2⟩ := hr.shape
              subst ev
              have HLN : Hid (NS w [.slice a LA acap, .slice (some ⟨bb, bo, none⟩) LB bcap] ((mrg f g).take (i + 1)) (.slice va (vs.length + 1) vc) (vs ++ [.slice na j nc]) (w'.setCell ⟨w.heap.size + 1 + 1 + 1, 0, none⟩ (.slice va (vs.length + 1) vc))) := by
                rw [take_push (mrg_at (f := f) (g := g) (i := i) (by rw [unhide hLA, unhide hLB]; omega)), unhide hmm]
                have hb1 : Below wr.heap.size wr (wr.alloc (.cells #[.slice na j nc] 33)) := (Below.refl _ wr).alloc (Nat.le_refl _) _
                refine (unhide hS).push (bl_past (unhide HBY) hb1) (u := .slice na j nc) (l := m) ?_ (fun k hk => ?_) hr ?_ hg (by simpa using hat)
                · exact (unhide HR5).fr (Fr.of_below (S := fun _ => False) hb1) (fun _ _ e => e)
                · exact ⟨unhide HNB k hk, Nat.lt_of_lt_of_le ((unhide HR5).lt k hk) hb1.size⟩
                · rw [unhide HVL, htl]
              have fw : Fr (fun k => (Value.slice ga i gc).ownBlock = some k) (wr.alloc (.cells #[.slice na j nc] 33)) w' := (Fr.refl _ _).grown hg (fun k e => .inr e)
              have hgb : ∀ k, (Value.slice ga i gc).ownBlock = some k → w.heap.size + 2 + 2 ≤ k := (unhide hS).ow.rb
              have hz2 : w.heap.size + 1 + 1 + 1 < (wr.alloc (.cells #[.slice na j nc] 33)).heap.size := by simp; omega
              have y2 : w'.cell? ⟨w.heap.size + 1 + 1 + 1, 0, none⟩ = some (.slice ga i gc) := by
                refine (fw.cell (a := ⟨w.heap.size + 1 + 1 + 1, 0, none⟩) hz2 (fun e => by have := hgb (w.heap.size + 1 + 1 + 1) e; omega)).trans ?_
                exact (World.cell?_of_block (Below.heap_alloc _ _ _ z3)).trans q3
              have y3 : w'.frozen? ⟨w.heap.size + 1 + 1 + 1, 0, none⟩ = false := by
                refine (fw.frozen (a := ⟨w.heap.size + 1 + 1 + 1, 0, none⟩) hz2 (fun e => by have := hgb (w.heap.size + 1 + 1 + 1) e; omega)).trans ?_
                exact (World.frozen?_of_block (Below.heap_alloc _ _ _ z3)).trans g3
              have y4 := Nat.lt_of_lt_of_le hz2 fw.size
              clear hr hg hat fw hgb hz2 HR5 HNB HBY HLS q3 g3 z3 HOW2 HLB htl
              go_wp2_with fail
              go_roundg (G0 - 1)
              case measure => have h1 := unhide hG0; have h2 := unhide hi; omega
              case rel => exact ⟨i + 1, _, _, by have h1 := unhide hG0; have h2 := unhide hi; unfold Hid; omega, by go_num, HLN⟩
        · obtain rfl : N = 0 := by omega
          have d3 : ¬ (0 : Int) < 0 := by omega
          go_wp2_with fail
          clear kB kBz
          clear q0 q1 q2 q3 g2 g3 z0 z1 z2 z3
          obtain ⟨Y, hY⟩ : ∃ Y : World, Y = wr := ⟨_, rfl⟩
          subst hY
          go_loopg [8, 9] 0 (fun g t8 t9 wq => ∃ (j : Nat) (cv : Value), Hid (j + g = 0) ∧ t8 = cv ∧ t9 = .int .i64 (j : Int) ∧ Hid (Gx Y 4 enS (m.take j) cv wq))
          case atStart => exact ⟨0, _, by unfold Hid; omega, rfl, rfl, HG⟩
          case round =>
            clear HG
            obtain ⟨j, cv, hj, hcv, rfl, hG⟩ := hrel
            by_cases hjt : j < 0
            · exact absurd hjt (by omega)
            · have hjN : j = 0 := by have := unhide hj; omega
              subst hjN
              have HLS := hide ((unhide hS).on (unhide hG).2.1)
              have HG1 := hide (unhide hG)
              rw [List.take_of_length_le (by rw [unhide hNN]; exact Nat.le_refl _)] at HG1
              obtain ⟨na, nc, en, hn1, hn2⟩ := (unhide HG1).1.shape
              rw [unhide hNN] at en
              rw [en] at hcv
              subst hcv
              have HR5 := hide (unhide HG1).1
              have hnbk := (unhide HG1).2.2
              rw [en] at HR5 hnbk
              have HNB := hide hnbk
              have HBY := hide (unhide HG1).2.1
              obtain ⟨c3, f3, z3⟩ := blk_cells (unhide HLS).b2
              have q3 := c3 0
              have g3 := f3 0
              simp at q3 g3 z3
              obtain ⟨ga, gc, eg, hg1, hg2⟩ := (unhide HLS).ow.row.shape
              have htl : ((mrg f g).take i).length = i := by rw [List.length_take, mrg_len, unhide hLA, unhide hLB]; omega
              rw [htl] at eg hg1
              subst eg
              have HOW := hide (unhide HLS).ow.row
              rw [htl] at HOW
              have hvl : vs.length = i := by have := (unhide HLS).ow.len; omega
              have HVL := hide hvl
              have HLB : Hid (vs.length ≤ 5864062014700) := by rw [hvl]; unfold Hid; omega
              have HOW2 : Hid (Ro wr 1 (.slice ga i gc) vs.length (flt enV vs)) := by rw [hvl]; exact HOW
              clear c3 f3 hG hnbk en hvl HG1 HOW
              go_wp2_with (first | (at_builtin; refine appR rfl _ _ rfl _ vs rfl ((unhide HOW2).keep (fun g hg => Below.heap_alloc _ _ _ ((unhide HOW2).lt g hg))) ⟨wr.heap.size, 0, none⟩ 1 (.slice na 0 nc) rfl rfl (new_cells _ _ _) (unhide HLB) ?_))
              intro v' w' hr hg hat
              obtain ⟨va, vc, ev, hv1, hv2⟩ := hr.shape
              subst ev
              have HLN : Hid (NS w [.slice a LA acap, .slice (some ⟨bb, bo, none⟩) LB bcap] ((mrg f g).take (i + 1)) (.slice va (vs.length + 1) vc) (vs ++ [.slice na 0 nc]) (w'.setCell ⟨w.heap.size + 1 + 1 + 1, 0, none⟩ (.slice va (vs.length + 1) vc))) := by
                rw [take_push (mrg_at (f := f) (g := g) (i := i) (by rw [unhide hLA, unhide hLB]; omega)), unhide hmm]
                have hb1 : Below wr.heap.size wr (wr.alloc (.cells #[.slice na 0 nc] 33)) := (Below.refl _ wr).alloc (Nat.le_refl _) _
                refine (unhide hS).push (bl_past (unhide HBY) hb1) (u := .slice na 0 nc) (l := m) ?_ (fun k hk => ?_) hr ?_ hg (by simpa using hat)
                · exact (unhide HR5).fr (Fr.of_below (S := fun _ => False) hb1) (fun _ _ e => e)
                · exact ⟨unhide HNB k hk, Nat.lt_of_lt_of_le ((unhide HR5).lt k hk) hb1.size⟩
                · rw [unhide HVL, htl]
              have fw : Fr (fun k => (Value.slice ga i gc).ownBlock = some k) (wr.alloc (.cells #[.slice na 0 nc] 33)) w' := (Fr.refl _ _).grown hg (fun k e => .inr e)
              have hgb : ∀ k, (Value.slice ga i gc).ownBlock = some k → w.heap.size + 2 + 2 ≤ k := (unhide hS).ow.rb
              have hz2 : w.heap.size + 1 + 1 + 1 < (wr.alloc (.cells #[.slice na 0 nc] 33)).heap.size := by simp; omega
              have y2 : w'.cell? ⟨w.heap.size + 1 + 1 + 1, 0, none⟩ = some (.slice ga i gc) := by
                refine (fw.cell (a := ⟨w.heap.size + 1 + 1 + 1, 0, none⟩) hz2 (fun e => by have := hgb (w.heap.size + 1 + 1 + 1) e; omega)).trans ?_
                exact (World.cell?_of_block (Below.heap_alloc _ _ _ z3)).trans q3
              have y3 : w'.frozen? ⟨w.heap.size + 1 + 1 + 1, 0, none⟩ = false := by
                refine (fw.frozen (a := ⟨w.heap.size + 1 + 1 + 1, 0, none⟩) hz2 (fun e => by have := hgb (w.heap.size + 1 + 1 + 1) e; omega)).trans ?_
                exact (World.frozen?_of_block (Below.heap_alloc _ _ _ z3)).trans g3
              have y4 := Nat.lt_of_lt_of_le hz2 fw.size
              clear hr hg hat fw hgb hz2 HR5 HNB HBY HLS q3 g3 z3 HOW2 HLB htl
              go_wp2_with fail
              go_roundg (G0 - 1)
              case measure => have h1 := unhide hG0; have h2 := unhide hi; omega
              case rel => exact ⟨i + 1, _, _, by have h1 := unhide hG0; have h2 := unhide hi; unfold Hid; omega, by go_num, HLN⟩
    · have hiL : i = M := by have := unhide hi; omega
      subst hiL
      have HF := hide (fun u => (unhide hS).fin u)
      rw [List.take_of_length_le (by rw [mrg_len, unhide hLA, unhide hLB, unhide hMM]; exact Nat.le_refl _)] at HF
      obtain ⟨ga, gc, eg, _, _⟩ := (unhide HF (.slice none 0 0)).1.row.shape
      subst eg
      have e1 : ¬ i < LA := by omega
      have e2 : ¬ i < LB := by omega
      clear HA HB HM HM2 hS
      go_wp2_with fail
      refine bodyPost_ret (v := .agg #[.slice ga (mrg f g).length gc]) ?_ rfl ?_
      · rw [results_cell_one rfl]
        go_simp
      · exact ⟨_, vs, rfl, (unhide HF _).1, (unhide HF _).2⟩
end Go.Proofs.Yteeafakgiahenaa
