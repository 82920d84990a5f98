/-
  Profiles of one's own: copied.
-/
import Derived.Test.YtjjfpokmpcpicaaPLn
namespace Go.Proofs.Ytjjfpokmpcpicaa
open Go.RowKit
set_option linter.unusedVariables false
set_option linter.unusedSimpArgs false
/-- A list of spots of one's own. -/
def SR (w : World) (l : List Sp) (u : Value) : Prop := Ro w 4 u l.length (flt enS l)
theorem staysS : Stays SR blV := fun S w w' l u h f hk => Ro.fr h f hk
abbrev SO := OW enV 1 SR blV
theorem OW.pf {Z : Nat → Prop} {w : World} {v : Value} {f : List (List Sp)} {vs : List Value} (h : SO Z w v f vs) : PfV w v f :=
  ⟨vs, h.len, by rw [h.len]; exact Rx.of_ro h.row, fun i l u hl hu => Rx.of_ro (h.el i l u hl hu)⟩
/-- While a profile is made: boxes, the answer's box, the profile's box. -/
structure NS (w : World) (bx : List Value) (fs : List (List Sp)) (gv : Value) (vs : List Value) (wr : World) : Prop where
  bl : Below w.heap.size w wr
  bs : ∀ j a, bx[j]? = some a → wr.heap[w.heap.size + j]? = some (.cells #[a] 28)
  b1 : wr.heap[w.heap.size + bx.length]? = some (.cells #[.slice none 0 0] 28)
  b2 : wr.heap[w.heap.size + bx.length + 1]? = some (.cells #[gv] 28)
  ow : SO (fun k => w.heap.size + bx.length + 2 ≤ k) wr gv fs vs
  sz : w.heap.size + bx.length + 2 ≤ wr.heap.size
theorem NS.start1 (w : World) (av : Value) : NS w [av] [] (.slice none 0 0) [] (((w.alloc (.cells #[av] 28)).alloc (.cells #[.slice none 0 0] 28)).alloc (.cells #[.slice none 0 0] 28)) := by
  obtain ⟨h1, h2, h3⟩ := blk3 w (.cells #[av] 28) (.cells #[.slice none 0 0] 28) (.cells #[.slice none 0 0] 28)
  refine ⟨bl_three w _ _ _, fun j a ha => ?_, h2, h3, OW.nil _, by simp only [World.size_alloc]; simp⟩
  match j, ha with
  | 0, ha => cases ha; exact h1
theorem NS.start2 (w : World) (av bv : Value) : NS w [av, bv] [] (.slice none 0 0) [] ((((w.alloc (.cells #[av] 28)).alloc (.cells #[bv] 28)).alloc (.cells #[.slice none 0 0] 28)).alloc (.cells #[.slice none 0 0] 28)) := by
  obtain ⟨h1, h2, h3⟩ := blk3 w (.cells #[av] 28) (.cells #[bv] 28) (.cells #[.slice none 0 0] 28)
  have k : Below (((w.alloc (.cells #[av] 28)).alloc (.cells #[bv] 28)).alloc (.cells #[.slice none 0 0] 28)).heap.size _ ((((w.alloc (.cells #[av] 28)).alloc (.cells #[bv] 28)).alloc (.cells #[.slice none 0 0] 28)).alloc (.cells #[.slice none 0 0] 28)) := (Below.refl _ _).alloc (Nat.le_refl _) _
  have h4 := heap_alloc_new (((w.alloc (.cells #[av] 28)).alloc (.cells #[bv] 28)).alloc (.cells #[.slice none 0 0] 28)) (.cells #[.slice none 0 0] 28)
  simp only [World.size_alloc] at h4 k
  refine ⟨bl_past (bl_three w _ _ _) ((Below.refl _ _).alloc (Nat.le_refl _) _), fun j a ha => ?_, (k.block _ (by simp)).trans h3, h4, OW.nil _, by simp only [World.size_alloc]; simp⟩
  match j, ha with
  | 0, ha => cases ha; exact (k.block _ (by omega)).trans h1
  | 1, ha => cases ha; exact (k.block _ (by omega)).trans h2
theorem NS.on {w : World} {bx : List Value} {fs : List (List Sp)} {gv : Value} {vs : List Value} {wr w' : World} (h : NS w bx fs gv vs wr) (k : Below wr.heap.size wr w') : NS w bx fs gv vs w' := by
  have hs := h.sz
  exact ⟨bl_past h.bl k, fun j a ha => (k.block _ (by have := (List.getElem?_eq_some_iff.1 ha).1; omega)).trans (h.bs j a ha), (k.block _ (by omega)).trans h.b1, (k.block _ (by omega)).trans h.b2, h.ow.below staysS k, Nat.le_trans hs k.size⟩
theorem NS.push {w : World} {bx : List Value} {fs : List (List Sp)} {gv : Value} {vs : List Value} {wr w1 w3 : World} (h : NS w bx fs gv vs wr) {l : List Sp} (hb : Below wr.heap.size wr w1) {u v' : Value} (hu : SR w1 l u) (hn : ∀ k, u.ownBlock = some k → wr.heap.size ≤ k ∧ k < w1.heap.size) {m : Nat}
    (hr : Ro w3 1 v' m (flt enV vs ++ enV u)) (hm : m = fs.length + 1) (hg : w1.grownBy w3 gv.ownBlock) (hat : v'.ownBlock = gv.ownBlock ∨ v'.ownBlock = some w1.heap.size) :
    NS w bx (fs ++ [l]) v' (vs ++ [u]) (w3.setCell ⟨w.heap.size + bx.length + 1, 0, none⟩ v') := by
  have hs := h.sz
  have hbs := hb.size
  obtain ⟨q1, q2⟩ := h.ow.push staysS hb hu hn (fun k hk => by omega) hr hm hg hat
  have hgb : ∀ k, gv.ownBlock = some k → w.heap.size + bx.length + 2 ≤ k := h.ow.rb
  have hsz := q2.size
  have fr2 : Fr (fun k => k = w.heap.size + bx.length + 1) w3 (w3.setCell ⟨w.heap.size + bx.length + 1, 0, none⟩ v') := Fr.setCell (S := fun k => k = w.heap.size + bx.length + 1) (Fr.refl _ w3) ⟨w.heap.size + bx.length + 1, 0, none⟩ (.inr rfl) v'
  have e0 : ∀ k, k < w.heap.size + bx.length + 2 → w3.heap[k]? = wr.heap[k]? := fun k hk => q2.block k (by omega) (fun e => by have := hgb k e; omega)
  have hbw : Below w.heap.size w w3 := h.bl.trans (q2.below h.bl.size (fun k hk e => by have := hgb k e; omega))
  have hbs1 := hbw.size
  refine ⟨hbw.trans (fr2.below hbs1 (fun k hk e => by omega)), fun j a ha => ?_, ?_, ?_, q1.frZ staysS fr2 (fun k _ hk e => by omega), ?_⟩
  · have hj := (List.getElem?_eq_some_iff.1 ha).1
    rw [fr2.block _ (by omega) (by omega), e0 _ (by omega)]; exact h.bs j a ha
  · rw [fr2.block _ (by omega) (by omega), e0 _ (by omega)]; exact h.b1
  · have := setCell_block (g := w.heap.size + bx.length + 1) (o := 0) ((e0 _ (by omega)).trans h.b2) v'
    rw [this]; rfl
  · have := fr2.size; omega
theorem NS.fin {w : World} {bx : List Value} {fs : List (List Sp)} {gv : Value} {vs : List Value} {wr : World} (h : NS w bx fs gv vs wr) (u : Value) : SO (fun k => w.heap.size ≤ k) (wr.setCell ⟨w.heap.size + bx.length, 0, none⟩ u) gv fs vs ∧ Below w.heap.size w (wr.setCell ⟨w.heap.size + bx.length, 0, none⟩ u) := by
  have f : Fr (fun k => k = w.heap.size + bx.length) wr (wr.setCell ⟨w.heap.size + bx.length, 0, none⟩ u) := Fr.setCell (S := fun k => k = w.heap.size + bx.length) (Fr.refl _ wr) ⟨w.heap.size + bx.length, 0, none⟩ (.inr rfl) u
  exact ⟨(h.ow.frZ staysS f (fun k _ hk e => by omega)).mono (fun k _ hk => by omega), h.bl.trans (f.below h.bl.size (fun k hk e => by omega))⟩
set_option maxRecDepth 100000 in
set_option maxHeartbeats 6400000 in
theorem copyP_any {w : World} {av : Value} {f : List (List Sp)} (ha : PfV w av f) (hN : f.length ≤ 5864062014634) (hM : ∀ l ∈ f, l.length ≤ 5864062014634) :
    Calls Try.prog 17 #[.agg #[av]] w fun e w' => ∃ gv vs, e = .returned (.agg #[gv]) ∧ SO (fun k => w.heap.size ≤ k) w' gv f vs ∧ Below w.heap.size w w' := by
  obtain ⟨a, acap, rfl, ha1, ha2⟩ := ha.shape
  have HA := hide (fun i l (hl : f[i]? = some l) => ha.row hl)
  have HM := hide hM
  clear hM
  unfold maxLen at ha2
  clear ha
  obtain ⟨L, hL⟩ : ∃ L, Hid (f.length = L) := ⟨_, hide rfl⟩
  rw [unhide hL] at ha1 hN ⊢
  have HX := hide (NS.start1 w (.slice a L acap))
  rw [show ([] : List (List Sp)) = f.take 0 from rfl] at HX
  go_enter Try.func17, Try.ntmps17
  go_wp2_with fail
  go_loopg [4] L (fun gg t4 wr => ∃ (i : Nat) (gv : Value) (vs : List Value), Hid (i + gg = L) ∧ t4 = .int .i64 (i : Int) ∧ Hid (NS w [.slice a L acap] (f.take i) gv vs wr))
  case atStart => exact ⟨0, _, _, by unfold Hid; omega, rfl, HX⟩
  case round =>
    clear HX
    obtain ⟨i, gv, vs, hi, rfl, hS⟩ := hrel
    obtain ⟨c0, f0, z0⟩ := blk_cells ((unhide hS).bs 0 _ rfl)
    obtain ⟨c1, f1, z1⟩ := blk_cells (unhide hS).b1
    obtain ⟨c2, f2, z2⟩ := blk_cells (unhide hS).b2
    have q0 := c0 0
    have q1 := c1 0
    have q2 := c2 0
    have g1 := f1 0
    have g2 := f2 0
    simp at q0 q1 q2 g1 g2 z0 z1 z2
    clear c0 c1 c2 f0 f1 f2
    by_cases hlt : i < L
    · have hil : i < f.length := by rw [unhide hL]; exact hlt
      obtain ⟨p, hp⟩ : ∃ p, f[i]? = some p := ⟨_, List.getElem?_eq_getElem hil⟩
      obtain ⟨ab, ao, la, lc, ea, ha4, ca, ra, ha5, ha6⟩ := unhide HA i p hp
      subst ea
      have hpm := unhide HM p (List.mem_of_getElem? hp)
      unfold maxLen at ha6
      have i0 : (0 : Int) ≤ (i : Int) := by omega
      have i1 : (i : Int) < (L : Int) := by omega
      have HP := hide hp
      have HCA := hide ca
      have HRA := hide ra
      obtain ⟨N, hNN⟩ : ∃ N, Hid (p.length = N) := ⟨_, hide rfl⟩
      have hnb : ab < w.heap.size := ha4
      rw [unhide hNN] at ha5 HCA hpm HRA
      have HG : Hid (Gx wr 4 enS (p.take 0) (.slice none 0 0) wr) := ⟨by simpa [flt] using Ro.nil _ _, Below.refl _ _, by simp [Value.ownBlock]⟩
      obtain ⟨G0, hG0⟩ : ∃ G0 : Nat, Hid (G0 = gk) := ⟨_, hide rfl⟩
      clear hp ca ra
      go_wp2_with fail
      clear q0 q1 q2 g1 g2 z0 z1 z2
      obtain ⟨Y, hY⟩ : ∃ Y : World, Y = wr := ⟨_, rfl⟩
      subst hY
      go_loopg [5, 6] N (fun g t5 t6 wq => ∃ (j : Nat) (cv : Value), Hid (j + g = N) ∧ t5 = cv ∧ t6 = .int .i64 (j : Int) ∧ Hid (Gx Y 4 enS (p.take j) cv wq))
      case atStart => exact ⟨0, _, by unfold Hid; omega, rfl, rfl, HG⟩
      case round =>
        clear HG
        obtain ⟨j, cv, hj, hcv, rfl, hG⟩ := hrel
        have HLS := hide ((unhide hS).on (unhide hG).2.1)
        obtain ⟨c0, -, z0⟩ := blk_cells ((unhide HLS).bs 0 _ rfl)
        have q0 := c0 0
        simp at q0 z0
        have k0 : wr.cell? ⟨ab, ao + i, none⟩ = some (.slice la N lc) := ((unhide HLS).bl.cell (p := ⟨ab, ao + i, none⟩) ha4).trans (unhide HCA)
        have hbr := Nat.lt_of_lt_of_le hnb (unhide HLS).bl.size
        clear c0
        by_cases hjt : j < N
        · subst hcv
          have hjl : j < p.length := by rw [unhide hNN]; exact hjt
          obtain ⟨x, hx⟩ : ∃ x, p[j]? = some x := ⟨_, List.getElem?_eq_getElem hjl⟩
          have hra := unhide HRA
          rw [← unhide hNN] at hra
          obtain ⟨xb, xo, ex, hx4, c0, c1, c2, c3⟩ := hra.spot hx
          subst ex
          clear hra
          have bl := (unhide HLS).bl
          have s0 : wr.cell? ⟨xb, xo + j * 4, none⟩ = _ := (bl.cell (p := ⟨xb, xo + j * 4, none⟩) hx4).trans c0
          have s1 : wr.cell? ⟨xb, xo + j * 4 + 1, none⟩ = _ := (bl.cell (p := ⟨xb, xo + j * 4 + 1, none⟩) hx4).trans c1
          have s2 : wr.cell? ⟨xb, xo + j * 4 + 2, none⟩ = _ := (bl.cell (p := ⟨xb, xo + j * 4 + 2, none⟩) hx4).trans c2
          have s3 : wr.cell? ⟨xb, xo + j * 4 + 3, none⟩ = _ := (bl.cell (p := ⟨xb, xo + j * 4 + 3, none⟩) hx4).trans c3
          have hxr := Nat.lt_of_lt_of_le hx4 bl.size
          have j0 : (0 : Int) ≤ (j : Int) := by omega
          have j1 : (j : Int) < (N : Int) := by omega
          have HRo := hide (unhide hG).1
          have htl : (p.take j).length = j := by simp; omega
          have HLB : Hid ((p.take j).length ≤ 5864062014700) := by rw [htl]; unfold Hid; omega
          have HXX := hide hx
          clear htl bl c0 c1 c2 c3 hx
          go_wp2_with (first | (at_builtin; refine appS rfl _ _ rfl _ (p.take j) rfl ((unhide HRo).keep (fun g hg => Below.heap_alloc _ _ _ ((unhide HRo).lt g hg))) ⟨wr.heap.size, 0, none⟩ 1 x rfl (new_cells _ _ _) (unhide HLB) ?_))
          intro v' w' hr hg hat
          have HG2 := hide ((unhide hG).push hr (by simp) hg (by simpa using hat))
          rw [← take_push (unhide HXX)] at HG2
          clear hr hg hat HRo HLB HLS
          go_wp2_with fail
          go_roundg (gk - 1)
          case measure => have := unhide hj; omega
          case rel => exact ⟨j + 1, v', by have := unhide hj; unfold Hid; omega, rfl, by go_num, HG2⟩
        · have hjN : j = N := by have := unhide hj; omega
          subst hjN
          have HG1 := hide (unhide hG)
          rw [List.take_of_length_le (by rw [unhide hNN]; exact Nat.le_refl _)] at HG1
          obtain ⟨na, nc, en, hn1, hn2⟩ := (unhide HG1).1.shape
          rw [unhide hNN] at en
          rw [en] at hcv
          subst hcv
          have HR5 := hide (unhide HG1).1
          have hnbk := (unhide HG1).2.2
          rw [en] at HR5 hnbk
          have HNB := hide hnbk
          have HBY := hide (unhide HG1).2.1
          obtain ⟨c2, f2, z2⟩ := blk_cells (unhide HLS).b2
          have q2 := c2 0
          have g2 := f2 0
          simp at q2 g2 z2
          obtain ⟨ga, gc, eg, hg1, hg2⟩ := (unhide HLS).ow.row.shape
          have htl : (f.take i).length = i := by simp; omega
          rw [htl] at eg hg1
          subst eg
          have HOW := hide (unhide HLS).ow.row
          rw [htl] at HOW
          have hvl : vs.length = i := by have := (unhide HLS).ow.len; omega
          have HVL := hide hvl
          have HLB : Hid (vs.length ≤ 5864062014700) := by rw [hvl]; unfold Hid; omega
          have HOW2 : Hid (Ro wr 1 (.slice ga i gc) vs.length (flt enV vs)) := by rw [hvl]; exact HOW
          clear c2 f2 htl hG hnbk en hvl HG1 HOW
          go_wp2_with (first | (at_builtin; refine appR rfl _ _ rfl _ vs rfl ((unhide HOW2).keep (fun g hg => Below.heap_alloc _ _ _ ((unhide HOW2).lt g hg))) ⟨wr.heap.size, 0, none⟩ 1 (.slice na j nc) rfl rfl (new_cells _ _ _) (unhide HLB) ?_))
          intro v' w' hr hg hat
          obtain ⟨va, vc, ev, hv1, hv2⟩ := hr.shape
          subst ev
          have HLN : Hid (NS w [.slice (some ⟨ab, ao, none⟩) L acap] (f.take (i + 1)) (.slice va (vs.length + 1) vc) (vs ++ [.slice na j nc]) (w'.setCell ⟨w.heap.size + 1 + 1, 0, none⟩ (.slice va (vs.length + 1) vc))) := by
            rw [take_push (unhide HP)]
            have hb1 : Below wr.heap.size wr (wr.alloc (.cells #[.slice na j nc] 53)) := (Below.refl _ wr).alloc (Nat.le_refl _) _
            refine (unhide hS).push (bl_past (unhide HBY) hb1) (u := .slice na j nc) (l := p) ?_ (fun k hk => ?_) hr ?_ hg (by simpa using hat)
            · exact (unhide HR5).fr (Fr.of_below (S := fun _ => False) hb1) (fun _ _ e => e)
            · exact ⟨unhide HNB k hk, Nat.lt_of_lt_of_le ((unhide HR5).lt k hk) hb1.size⟩
            · rw [unhide HVL]; simp; omega
          have fw : Fr (fun k => (Value.slice ga i gc).ownBlock = some k) (wr.alloc (.cells #[.slice na j nc] 53)) w' := (Fr.refl _ _).grown hg (fun k e => .inr e)
          have hgb : ∀ k, (Value.slice ga i gc).ownBlock = some k → w.heap.size + 1 + 2 ≤ k := (unhide hS).ow.rb
          have hz2 : w.heap.size + 1 + 1 < (wr.alloc (.cells #[.slice na j nc] 53)).heap.size := by simp; omega
          have y2 : w'.cell? ⟨w.heap.size + 1 + 1, 0, none⟩ = some (.slice ga i gc) := by
            refine (fw.cell (a := ⟨w.heap.size + 1 + 1, 0, none⟩) hz2 (fun e => by have := hgb (w.heap.size + 1 + 1) e; omega)).trans ?_
            exact (World.cell?_of_block (Below.heap_alloc _ _ _ z2)).trans q2
          have y3 : w'.frozen? ⟨w.heap.size + 1 + 1, 0, none⟩ = false := by
            refine (fw.frozen (a := ⟨w.heap.size + 1 + 1, 0, none⟩) hz2 (fun e => by have := hgb (w.heap.size + 1 + 1) e; omega)).trans ?_
            exact (World.frozen?_of_block (Below.heap_alloc _ _ _ z2)).trans g2
          have y4 := Nat.lt_of_lt_of_le hz2 fw.size
          clear hr hg hat fw hgb hz2 HR5 HNB HBY HLS q0 z0 k0 hbr q2 g2 z2 HOW2 HLB
          go_wp2_with fail
          go_roundg (G0 - 1)
          case measure => have h1 := unhide hG0; have h2 := unhide hi; omega
          case rel => exact ⟨i + 1, _, _, by have h1 := unhide hG0; have h2 := unhide hi; unfold Hid; omega, by go_num, HLN⟩
    · have hiL : i = L := by have := unhide hi; omega
      subst hiL
      have HF := hide (fun u => (unhide hS).fin u)
      rw [List.take_of_length_le (by rw [unhide hL]; exact Nat.le_refl _)] at HF
      obtain ⟨ga, gc, eg, _, _⟩ := (unhide HF (.slice none 0 0)).1.row.shape
      subst eg
      clear HA HM hS
      go_wp2_with fail
      refine bodyPost_ret (v := .agg #[.slice ga f.length gc]) ?_ rfl ?_
      · rw [results_cell_one rfl]
        go_simp
      · exact ⟨_, vs, rfl, (unhide HF _).1, (unhide HF _).2⟩
end Go.Proofs.Ytjjfpokmpcpicaa
