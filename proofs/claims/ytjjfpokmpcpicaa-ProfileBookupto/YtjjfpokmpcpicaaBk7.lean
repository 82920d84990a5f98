/-
  New.
-/
import Derived.Test.YtjjfpokmpcpicaaBk6
import Derived.Test.YtjjfpokmpcpicaaBk70
namespace Go.Proofs.Ytjjfpokmpcpicaa
open Go.RowKit Go.Maps
set_option linter.unusedVariables false
set_option linter.unusedSimpArgs false
/-- While a book is made. -/
structure NwI (w : World) (cv fa av : Value) (sh : List Nat) (f : List (List Sp)) (i j : Nat) (wr : World) : Prop where
  bl : Below w.heap.size w wr
  x0 : wr.heap[w.heap.size]? = some (.cells #[cv, fa] 25)
  x1 : wr.heap[w.heap.size + 1]? = some (.cells #[av] 28)
  bk : ∃ g, BkG wr (w.heap.size + 3) (w.heap.size + 2) sh.length ((sh.take i).sum + j) g ∧ (∀ s, (g s).map (·.2) = nwS sh f i j s) ∧ ∀ k, bkS (w.heap.size + 3) (w.heap.size + 2) g k → w.heap.size + 2 ≤ k
theorem NwI.on {w : World} {cv fa av : Value} {sh : List Nat} {f : List (List Sp)} {i j : Nat} {wr w' : World} (h : NwI w cv fa av sh f i j wr) (b : Below wr.heap.size wr w') : NwI w cv fa av sh f i j w' := by
  obtain ⟨h1, h2, h3, g, h4, h5, h6⟩ := h
  exact ⟨h1.trans (b.mono h1.size), (b.block _ (Array.getElem?_eq_some_iff.1 h2).1).trans h2, (b.block _ (Array.getElem?_eq_some_iff.1 h3).1).trans h3, g, h4.fr (Fr.of_below (S := fun _ => False) b) (fun _ _ e => e), h5, h6⟩
theorem NwI.start (w : World) (cv fa av : Value) (sh : List Nat) (f : List (List Sp)) : NwI w cv fa av sh f 0 0 ((((w.alloc (.cells #[cv, fa] 25)).alloc (.cells #[av] 28)).alloc (.map #[] 0)).alloc (.cells #[.int .i64 (sh.length : Int), .map (some (w.heap.size + 2))] 59)) := by
  have s1 : (w.alloc (.cells #[cv, fa] 25)).heap.size = w.heap.size + 1 := by simp only [World.size_alloc]
  have s2 : ((w.alloc (.cells #[cv, fa] 25)).alloc (.cells #[av] 28)).heap.size = w.heap.size + 2 := by simp only [World.size_alloc]
  have s3 : (((w.alloc (.cells #[cv, fa] 25)).alloc (.cells #[av] 28)).alloc (.map #[] 0)).heap.size = w.heap.size + 3 := by simp only [World.size_alloc]
  have hm := MfB.made ((w.alloc (.cells #[cv, fa] 25)).alloc (.cells #[av] 28))
  rw [s2] at hm
  refine ⟨(((((Below.refl _ w).alloc (Nat.le_refl _) _).alloc (by omega) _).alloc (by omega) _).alloc (by omega) _), ?_, ?_, fun _ => none, ⟨?_, ?_, fun s b x e => by (cases e), fun s t b x y e => by (cases e), fun s b x e => by (cases e), by omega⟩, fun s => by rw [nwS_zero]; rfl, fun k hk => ?_⟩
  · rw [Below.heap_alloc _ _ _ (by omega), Below.heap_alloc _ _ _ (by omega), Below.heap_alloc _ _ _ (by omega)]
    exact heap_alloc_new w _
  · rw [Below.heap_alloc _ _ _ (by omega), Below.heap_alloc _ _ _ (by omega), ← s1]
    exact heap_alloc_new _ _
  · have := heap_alloc_new (((w.alloc (.cells #[cv, fa] 25)).alloc (.cells #[av] 28)).alloc (.map #[] 0)) (.cells #[.int .i64 (sh.length : Int), .map (some (w.heap.size + 2))] 59)
    rw [s3] at this
    exact this
  · have := hm.fr (S := fun _ => False) ((Fr.refl _ _).alloc (.cells #[.int .i64 (sh.length : Int), .map (some (w.heap.size + 2))] 59)) (fun e => e)
    simpa using this
  · rcases hk with rfl | rfl | ⟨s, x, e⟩
    · omega
    · omega
    · cases e
theorem sum_take_le : ∀ (l : List Nat) (i : Nat), (l.take i).sum ≤ l.sum
  | [], i => by simp
  | x :: l, 0 => by simp
  | x :: l, i + 1 => by have := sum_take_le l i; simp; omega
theorem sum_take_succ {l : List Nat} {i n : Nat} (h : l[i]? = some n) : (l.take (i + 1)).sum = (l.take i).sum + n := by
  rw [List.take_add_one, h]; simp
theorem NwI.next {w : World} {cv fa av : Value} {sh : List Nat} {f : List (List Sp)} {i n : Nat} {wr : World} (hn : sh[i]? = some n) (h : NwI w cv fa av sh f i n wr) : NwI w cv fa av sh f (i + 1) 0 wr := by
  obtain ⟨h1, h2, h3, g, h4, h5, h6⟩ := h
  exact ⟨h1, h2, h3, g, by rw [sum_take_succ hn, Nat.add_zero]; exact h4, fun s => by rw [nwS_next f hn]; exact h5 s, h6⟩
theorem NwI.fin {w : World} {cv fa av : Value} {sh : List Nat} {f : List (List Sp)} {wr : World} (h : NwI w cv fa av sh f sh.length 0 wr) : BkM (fun k => w.heap.size ≤ k) wr (w.heap.size + 3) (newP sh f) := by
  obtain ⟨h1, h2, h3, g, h4, h5, h6⟩ := h
  rw [List.take_length, Nat.add_zero] at h4
  exact ⟨_, _, g, by rw [newP_len]; exact h4, by rw [newP_lens]; rfl, fun s => by rw [h5, nwS_end], fun k hk => by have := h6 k hk; omega⟩
/-- One place more. -/
theorem NwI.more {w : World} {cv fa av : Value} {sh : List Nat} {f : List (List Sp)} {i j n : Nat} {wr V1 V2 : World} (hn : sh[i]? = some n) (hj : j < n) (h : NwI w cv fa av sh f i j wr) (hb1 : Below wr.heap.size wr V1) (hl : wr.heap.size < V1.heap.size) (hf : Fr (fun k => k = wr.heap.size) V1 V2) (hs : V2.heap[wr.heap.size]? = some (.cells (spC (atP f (i : Int) (j : Int))) 74)) (hok : OkV ((i : Int), (j : Int))) (hsum : sh.sum < 5864062014634000) :
    ∃ w', (Instr.mapUpdate 57 (.map (some (w.heap.size + 2))) (.agg #[.int .i64 (i : Int), .int .i64 (j : Int)]) (.pointer (some ⟨wr.heap.size, 0, none⟩))).run Try.prog V2 = .ok () w' ∧ NwI w cv fa av sh f i (j + 1) w' := by
  obtain ⟨k1, k2, k3, g, k4, k5, k6⟩ := h
  have q1 : BkG V1 (w.heap.size + 3) (w.heap.size + 2) sh.length ((sh.take i).sum + j) g := k4.fr (Fr.of_below (S := fun _ => False) hb1) (fun _ _ e => e)
  have q2 : BkG V2 (w.heap.size + 3) (w.heap.size + 2) sh.length ((sh.take i).sum + j) g := q1.fr hf (fun k hk e => by have := k4.ltS hk; omega)
  have hgn : g ((i : Int), (j : Int)) = none := by
    have := k5 ((i : Int), (j : Int))
    rw [nwS_at] at this
    cases e : g ((i : Int), (j : Int)) with
    | none => rfl
    | some x => rw [e] at this; cases this
  have hcnt : (sh.take i).sum + j < 5864062014634000 := by
    have e1 := sum_take_le sh (i + 1)
    rw [sum_take_succ hn] at e1
    omega
  obtain ⟨w', hrun, hm, hgr⟩ := q2.map.put ((i : Int), (j : Int)) hok (by simp only [hgn]; rfl) wr.heap.size (by unfold maxLen; omega)
  have fr : Fr (fun k => k = w.heap.size + 2) V2 w' := (Fr.refl _ V2).grown hgr (fun k e => .inr (by cases e; rfl))
  have z0 := (Array.getElem?_eq_some_iff.1 k2).1
  have z1 := (Array.getElem?_eq_some_iff.1 k3).1
  have zs1 := hb1.size
  have zs2 := hf.size
  have zbk := k4.ltS (.inl rfl)
  refine ⟨w', hrun, ((k1.trans (hb1.mono k1.size)).trans (hf.below (by omega) (fun k hk e => by omega))).trans (fr.below (by omega) (fun k hk e => by omega)), ?_, ?_, putG g ((i : Int), (j : Int)) wr.heap.size (atP f (i : Int) (j : Int)), ?_, fun t => ?_, fun k hk => ?_⟩
  · rw [fr.block _ (by omega) (by omega), hf.block _ (by omega) (by omega), hb1.block _ z0]; exact k2
  · rw [fr.block _ (by omega) (by omega), hf.block _ (by omega) (by omega), hb1.block _ z1]; exact k3
  · have := q2.more hgn hs (fun hk => by have := k4.ltS hk; omega) fr hm
    rw [← Nat.add_assoc]
    exact this
  · rw [nwS_step f hn hj]
    by_cases e : t = ((i : Int), (j : Int))
    · subst e; rw [putG_same, if_pos rfl]; rfl
    · rw [putG_other _ _ e, if_neg e]; exact k5 t
  · rcases bkS_put hk with q | q
    · exact k6 k q
    · omega
set_option maxRecDepth 100000 in
set_option maxHeartbeats 12800000 in
theorem new_any {w : World} {pv av : Value} {sh : List Nat} {f : List (List Sp)} (hp : PgL w pv sh) (ha : PfV w av f) (hO : OkF f) (hL : sh.length ≤ 5864062014634) (hsum : sh.sum ≤ 5864062014634) :
    Calls Try.prog 6 #[pv, .agg #[av]] w fun e w' => ∃ p, e = .returned (.pointer (some ⟨p, 0, none⟩)) ∧ BkM (fun k => w.heap.size ≤ k) w' p (newP sh f) ∧ Below w.heap.size w w' := by
  obtain ⟨cv, fa, xs, rfl, hx1, hx2, ⟨ca, cn, cc, rfl⟩, hx4⟩ := hp
  obtain ⟨a, acap, rfl, ha1, ha2⟩ := ha.shape
  have HA := hide (fun W (hW : Below w.heap.size w W) => ha.below hW (Nat.le_refl _))
  have HX := hide (fun i x (hx : xs[i]? = some x) => hx2.elem zF hx)
  obtain ⟨ra, rc, rfl, hr1, hr2⟩ := hx2.shape
  obtain ⟨NF, hNF⟩ : ∃ NF, Hid (sh.length = NF) := ⟨_, hide rfl⟩
  obtain ⟨FL, hFL⟩ : ∃ FL, Hid (f.length = FL) := ⟨_, hide rfl⟩
  have hxl : xs.length = NF := by rw [hx1]; exact unhide hNF
  rw [hxl] at HX hr1 ⊢
  rw [unhide hFL] at HA ha1 ⊢
  have HX1 := hide hx1
  have HX4 := hide hx4
  have HST := hide (NwI.start w (.slice ca cn cc) (.slice ra NF rc) (.slice a FL acap) sh f)
  rw [unhide hNF] at HST hL
  have HO := hide hO
  have HSM := hide hsum
  unfold maxLen at ha2 hr2
  clear hx1 hx2 hx4 ha hxl hO hsum
  obtain ⟨q, hq⟩ : ∃ q, Hid (w.heap.size = q) := ⟨_, hide rfl⟩
  have hmm : ∀ W : World, (Instr.makeMap 57 none).run Try.prog W = .ok (.map (some W.heap.size)) (W.alloc (.map #[] 0)) := fun W => by rfl
  go_enter Try.func6, Try.ntmps6
  go_wp2_with fail
  rw [unhide hq] at HST
  obtain ⟨W0, hW0⟩ : ∃ W0, Hid ((((w.alloc (.cells #[.slice ca cn cc, .slice ra NF rc] 25)).alloc (.cells #[.slice a FL acap] 28)).alloc (.map #[] 0)).alloc (.cells #[.int .i64 (NF : Int), .map (some (q + 2))] 59) = W0) := ⟨_, hide rfl⟩
  rw [unhide hW0] at HST
  have hx := (blk_cells (unhide HST).x0)
  rw [unhide hq] at hx
  have p1 := hx.1 1
  have p2 := hx.2.2
  clear hx
  rw [unhide hq]
  (try rw [show q + 1 + 1 = q + 2 from rfl])
  rw [unhide hW0]
  go_wp2_with fail
  clear p1 p2
  go_loopg [19] NF (fun gg t19 wr => ∃ (i : Nat), Hid (i + gg = NF) ∧ t19 = .int .i64 (i : Int) ∧ Hid (NwI w (.slice ca cn cc) (.slice ra NF rc) (.slice a FL acap) sh f i 0 wr))
  case atStart => exact ⟨0, by unfold Hid; omega, rfl, HST⟩
  case round =>
    clear HST
    obtain ⟨i, hi, rfl, hI⟩ := hrel
    by_cases hlt : i < NF
    · have i0 : (0 : Int) ≤ (i : Int) := by omega
      have i1 : (i : Int) < (NF : Int) := by omega
      have HLT := hide hlt
      obtain ⟨x, hx⟩ : ∃ x, xs[i]? = some x := ⟨_, List.getElem?_eq_getElem (by rw [unhide HX1, unhide hNF]; exact hlt)⟩
      obtain ⟨n, hn⟩ : ∃ n, sh[i]? = some n := ⟨_, List.getElem?_eq_getElem (by rw [unhide hNF]; exact hlt)⟩
      obtain ⟨b, off, cap, eb, _, _, hbl, hcs⟩ := unhide HX i x hx
      cases eb
      obtain ⟨xa, xc, ha', hn', hc', ex1, ex2⟩ := unhide HX4 i n x hn hx
      obtain ⟨x0, x1, x2, x3, x4⟩ := x
      simp only at ex1 ex2
      subst ex1 ex2
      have HBW := hide (unhide hI).bl
      have g0 := ((unhide HBW).cell (p := ⟨b, off + i * 5 + 0, none⟩) hbl).trans (hcs 0 _ rfl)
      have g1 := ((unhide HBW).cell (p := ⟨b, off + i * 5 + 1, none⟩) hbl).trans (hcs 1 _ rfl)
      have g2 := ((unhide HBW).cell (p := ⟨b, off + i * 5 + 2, none⟩) hbl).trans (hcs 2 _ rfl)
      have g3 := ((unhide HBW).cell (p := ⟨b, off + i * 5 + 3, none⟩) hbl).trans (hcs 3 _ rfl)
      have g4 := ((unhide HBW).cell (p := ⟨b, off + i * 5 + 4, none⟩) hbl).trans (hcs 4 _ rfl)
      rw [Nat.add_zero] at g0
      have hbl2 := Nat.lt_of_lt_of_le hbl (unhide HBW).size
      have HN := hide hn
      have hnb : n ≤ 5864062014634 := Nat.le_trans (le_sum (List.mem_of_getElem? hn)) (unhide HSM)
      have HI2 : Hid (∀ O, NwI w (.slice ca cn cc) (.slice (some ⟨b, off, none⟩) NF rc) (.slice a FL acap) sh f i 0 (wr.alloc O)) := fun O => (unhide hI).on ((Below.refl _ wr).alloc (Nat.le_refl _) O)
      clear hcs hx hn hI
      go_wp2_with fail
      have HI3 := hide (unhide HI2 (.cells #[.string x0, .int .i64 x1, .int .i64 x2, .slice xa n xc, .slice ha' hn' hc'] 63))
      clear HI2 g0 g1 g2 g3 g4
      obtain ⟨W1, hW1⟩ : ∃ W1, Hid (wr.alloc (.cells #[.string x0, .int .i64 x1, .int .i64 x2, .slice xa n xc, .slice ha' hn' hc'] 63) = W1) := ⟨_, hide rfl⟩
      rw [unhide hW1] at HI3 ⊢
      clear hW1 HBW
      obtain ⟨gko, hgko⟩ : ∃ g, g = gk := ⟨_, rfl⟩
      subst hgko
      go_loopg [27] n (fun gg t27 wv => ∃ (j : Nat), Hid (j + gg = n) ∧ t27 = .int .i64 (j : Int) ∧ Hid (NwI w (.slice ca cn cc) (.slice (some ⟨b, off, none⟩) NF rc) (.slice a FL acap) sh f i j wv))
      case atStart => exact ⟨0, by unfold Hid; omega, rfl, HI3⟩
      case round =>
        clear HI3
        obtain ⟨j, hj, rfl, hJ⟩ := hrel
        by_cases hjt : j < n
        · have j0 : (0 : Int) ≤ (j : Int) := by omega
          have j1 : (j : Int) < (n : Int) := by omega
          have HJT := hide hjt
          have hok : OkV ((i : Int), (j : Int)) := ⟨WalkArith.wf_i64 (by simp; omega), WalkArith.wf_i64 (by simp; omega)⟩
          obtain ⟨x, hx⟩ : ∃ x, Hid (atP f (i : Int) (j : Int) = x) := ⟨_, hide rfl⟩
          have hox : okS x := by rw [← unhide hx]; exact (unhide HO).atP' _ _
          have HAT := hide (fun W (hW : Below w.heap.size w W) => at_any (unhide HA W hW) (i : Int) (j : Int))
          rw [unhide hx] at HAT
          obtain ⟨c0, -, c2⟩ := blk_cells (unhide hJ).x1
          have d0 := c0 0
          rw [unhide hq] at d0 c2
          obtain ⟨b0, hb0⟩ : ∃ b0, Hid (wr.heap.size = b0) := ⟨_, hide rfl⟩
          have HBX : Hid (∀ O, Below wr.heap.size wr (wr.alloc O)) := fun O => (Below.refl _ wr).alloc (Nat.le_refl _) O
          have HMO := hide (fun V1 V2 h1 h2 h3 h4 => NwI.more (V1 := V1) (V2 := V2) (unhide HN) hjt (unhide hJ) h1 h2 h3 h4 hok (by have := unhide HSM; omega))
          rw [unhide hx, unhide hb0, unhide hq] at HMO
          have HBJ := hide (unhide hJ).bl
          have HBB : Hid (∀ W, Below wr.heap.size wr W → W.cell? ⟨q + 2 + 1, 1, none⟩ = some (.map (some (q + 2))) ∧ q + 2 + 1 < W.heap.size) := fun W hW => by
            obtain ⟨g, hg, _⟩ := ((unhide hJ).on hW).bk
            have h1 := blk_cells hg.book
            rw [unhide hq] at h1
            exact ⟨h1.1 1, h1.2.2⟩
          have HQ3 : Hid (q + 2 + 1 < b0) := by
            have := (unhide HBB wr (Below.refl _ _)).2
            rw [unhide hb0] at this
            exact this
          clear c0 hok hJ hjt
          go_wp2_with fail
          obtain ⟨y0, y1, y2, y3⟩ := x
          refine (unhide HAT _ ((unhide HBJ).trans ((unhide HBX _).mono (unhide HBJ).size))).mono ?_
          rintro e V1 ⟨rfl, hb1⟩
          have HB1 : Hid (Below wr.heap.size wr V1) := (unhide HBX _).trans (hb1.mono (by rw [World.size_alloc]; omega))
          have HS1 : Hid (V1.heap[b0]? = some (.cells (spC spZ) 74)) := by
            have h1 := heap_alloc_new wr (.cells #[.int .i64 0, .int .i64 0, .int .u32 0, .int .u32 0] 74)
            have h2 := hb1.block wr.heap.size (by rw [World.size_alloc]; omega)
            rw [← unhide hb0]
            exact h2.trans h1
          have HL1 : Hid (b0 < V1.heap.size) := (Array.getElem?_eq_some_iff.1 (unhide HS1)).1
          have HADD := hide (add_any (unhide HS1) (by unfold okS spZ; simp) hox)
          rw [tog_zero hox] at HADD
          unfold spV at HADD ⊢
          simp only at HADD ⊢
          rw [unhide hb0]
          clear hb1 HAT d0 c2 hox
          go_wp2_with fail
          refine (unhide HADD).mono ?_
          rintro e V2 ⟨rfl, hs2, hf2⟩
          obtain ⟨V3, hrun, hN3⟩ := unhide HMO V1 V2 (by rw [← unhide hb0]; exact unhide HB1) (unhide HL1) hf2 hs2
          have HN3 := hide hN3
          have e1 : V2.cell? ⟨q + 2 + 1, 1, none⟩ = some (.map (some (q + 2))) := (hf2.cell (a := ⟨q + 2 + 1, 1, none⟩) (unhide HBB V1 (unhide HB1)).2 (by show ¬ q + 2 + 1 = b0; have := unhide HQ3; omega)).trans (unhide HBB V1 (unhide HB1)).1
          have e2 : q + 2 + 1 < V2.heap.size := Nat.lt_of_lt_of_le (unhide HBB V1 (unhide HB1)).2 hf2.size
          clear hN3 hs2 hf2 HADD HMO
          go_wp2_with fail
          go_roundg (gk - 1)
          case measure => have := unhide hj; have := unhide HJT; omega
          case rel => exact ⟨j + 1, by have h1 := unhide hj; have h2 := unhide HJT; unfold Hid; omega, by go_num, HN3⟩
        · have hj0 : j = n := by have := unhide hj; omega
          subst hj0
          have HNX := hide ((unhide hJ).next (unhide HN))
          clear hJ
          go_wp2_with fail
          go_roundg (gko - 1)
          case measure => have := unhide hi; have := unhide HLT; omega
          case rel => exact ⟨i + 1, by have h1 := unhide hi; have h2 := unhide HLT; unfold Hid; omega, by go_num, HNX⟩
    · have hi0 : i = NF := by have := unhide hi; omega
      subst hi0
      have HFN : Hid (BkM (fun k => w.heap.size ≤ k) wr (q + 3) (newP sh f)) := by
        have := unhide hI
        rw [← unhide hNF] at this
        have h2 := this.fin
        rw [unhide hq] at h2 ⊢
        exact h2
      have HBL := hide (unhide hI).bl
      clear hI
      go_wp2_with fail
      go_ret
      exact ⟨_, rfl, unhide HFN, unhide HBL⟩
end Go.Proofs.Ytjjfpokmpcpicaa
