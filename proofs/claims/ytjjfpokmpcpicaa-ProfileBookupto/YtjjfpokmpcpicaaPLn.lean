/-
  A profile lent.
-/
import Derived.Test.YtjjfpokmpcpicaaSmP
namespace Go.Proofs.Ytjjfpokmpcpicaa
open Go.RowKit
set_option linter.unusedVariables false
set_option linter.unusedSimpArgs false
def mkS (n : Nat) : List Sp := (List.range n).map (fun (i : Nat) => (⟨-9, 0, 0, (i : Int)⟩ : Sp))
theorem mkS_succ (n : Nat) : mkS (n + 1) = mkS n ++ [⟨-9, 0, 0, (n : Int)⟩] := by simp [mkS, List.range_succ]
theorem mkS_length (n : Nat) : (mkS n).length = n := by simp [mkS]
theorem mkS_at {n i : Nat} (h : i < n) : (mkS n)[i]? = some ⟨-9, 0, 0, (i : Int)⟩ := by simp [mkS, h]
/-- A list of spots, lent: marks behind it. -/
def LR (w : World) (l : List Sp) (u : Value) : Prop :=
  ∃ b o c, u = .slice (some ⟨b, o, none⟩) l.length c ∧ Ro w 4 (.slice (some ⟨b, o, none⟩) (l.length + 64) c) (l.length + 64) (flt enS (l ++ mkS 64))
def blV (u : Value) (k : Nat) : Prop := u.ownBlock = some k
theorem staysL : Stays LR blV := fun S w w' l u h f hk => by
  obtain ⟨b, o, c, e, h⟩ := h
  exact ⟨b, o, c, e, h.fr f (fun k hk2 => hk k (by rw [e]; exact hk2))⟩
theorem LR.rx {w : World} {l : List Sp} {u : Value} (h : LR w l u) : Ro w 4 u l.length (flt enS l) := by
  obtain ⟨b, o, c, rfl, h⟩ := h
  have := h.upto rfl (k := l.length) (by omega)
  rw [flt_take zS, List.take_left] at this
  exact this
abbrev LO := OW enV 1 LR blV
theorem OW.lpf {Z : Nat → Prop} {w : World} {v : Value} {f : List (List Sp)} {vs : List Value} (h : LO Z w v f vs) : PfV w v f :=
  ⟨vs, h.len, by rw [h.len]; exact Rx.of_ro h.row, fun i l u hl hu => Rx.of_ro (h.el i l u hl hu).rx⟩
structure LS (w : World) (av : Value) (f : List (List Sp)) (i : Nat) (gv : Value) (vs : List Value) (wr : World) : Prop where
  bl : Below w.heap.size w wr
  b0 : wr.heap[w.heap.size]? = some (.cells #[av] 28)
  b1 : wr.heap[w.heap.size + 1]? = some (.cells #[.slice none 0 0] 28)
  b2 : wr.heap[w.heap.size + 1 + 1]? = some (.cells #[gv] 28)
  ow : LO (fun k => w.heap.size + 3 ≤ k) wr gv (f.take i) vs
  sz : w.heap.size + 3 ≤ wr.heap.size
theorem LS.start (w : World) (av : Value) (f : List (List Sp)) : LS w av f 0 (.slice none 0 0) [] (((w.alloc (.cells #[av] 28)).alloc (.cells #[.slice none 0 0] 28)).alloc (.cells #[.slice none 0 0] 28)) := by
  obtain ⟨h1, h2, h3⟩ := blk3 w (.cells #[av] 28) (.cells #[.slice none 0 0] 28) (.cells #[.slice none 0 0] 28)
  exact ⟨bl_three w _ _ _, h1, h2, h3, by rw [List.take_zero]; exact OW.nil _, by simp only [World.size_alloc]; omega⟩
theorem LS.on {w : World} {av : Value} {f : List (List Sp)} {i : Nat} {gv : Value} {vs : List Value} {wr w' : World} (h : LS w av f i gv vs wr) (k : Below wr.heap.size wr w') : LS w av f i gv vs w' := by
  have hs := h.sz
  exact ⟨bl_past h.bl k, (k.block _ (by omega)).trans h.b0, (k.block _ (by omega)).trans h.b1, (k.block _ (by omega)).trans h.b2, h.ow.below staysL k, Nat.le_trans hs k.size⟩
theorem LS.push {w : World} {av : Value} {f : List (List Sp)} {i : Nat} {gv : Value} {vs : List Value} {wr w1 w3 : World} (h : LS w av f i gv vs wr) {l : List Sp} (hl : f[i]? = some l) (hb : Below wr.heap.size wr w1) {u v' : Value} (hu : LR w1 l u) (hn : ∀ k, u.ownBlock = some k → wr.heap.size ≤ k ∧ k < w1.heap.size) {m : Nat}
    (hr : Ro w3 1 v' m (flt enV vs ++ enV u)) (hm : m = i + 1) (hg : w1.grownBy w3 gv.ownBlock) (hat : v'.ownBlock = gv.ownBlock ∨ v'.ownBlock = some w1.heap.size) :
    LS w av f (i + 1) v' (vs ++ [u]) (w3.setCell ⟨w.heap.size + 1 + 1, 0, none⟩ v') := by
  have hs := h.sz
  have hil := (List.getElem?_eq_some_iff.1 hl).1
  have htl : (f.take i).length = i := by simp; omega
  have hbs := hb.size
  obtain ⟨q1, q2⟩ := h.ow.push staysL hb hu hn (fun k hk => by omega) hr (by rw [htl]; exact hm) hg hat
  rw [← take_push hl] at q1
  have hgb : ∀ k, gv.ownBlock = some k → w.heap.size + 3 ≤ k := h.ow.rb
  have hsz := q2.size
  have fr2 : Fr (fun k => k = w.heap.size + 1 + 1) w3 (w3.setCell ⟨w.heap.size + 1 + 1, 0, none⟩ v') := Fr.setCell (S := fun k => k = w.heap.size + 1 + 1) (Fr.refl _ w3) ⟨w.heap.size + 1 + 1, 0, none⟩ (.inr rfl) v'
  have e0 : ∀ k, k < w.heap.size + 3 → w3.heap[k]? = wr.heap[k]? := fun k hk => q2.block k (by omega) (fun e => by have := hgb k e; omega)
  have hbw : Below w.heap.size w w3 := h.bl.trans (q2.below h.bl.size (fun k hk e => by have := hgb k e; omega))
  have hbs1 := hbw.size
  refine ⟨hbw.trans (fr2.below hbs1 (fun k hk e => by omega)), ?_, ?_, ?_, q1.frZ staysL fr2 (fun k _ hk e => by omega), ?_⟩
  · rw [fr2.block _ (by omega) (by omega), e0 _ (by omega)]; exact h.b0
  · rw [fr2.block _ (by omega) (by omega), e0 _ (by omega)]; exact h.b1
  · have := setCell_block (g := w.heap.size + 1 + 1) (o := 0) ((e0 _ (by omega)).trans h.b2) v'
    rw [this]; rfl
  · have := fr2.size; omega
set_option maxRecDepth 100000 in
set_option maxHeartbeats 6400000 in
theorem lentP_any {w : World} {av : Value} {f : List (List Sp)} (ha : PfV w av f) (hN : f.length ≤ 5864062014634) (hM : ∀ l ∈ f, l.length ≤ 5864062014634) :
    Calls Try.prog 5 #[.agg #[av]] w fun e w' => ∃ gv vs, e = .returned (.agg #[gv]) ∧ LO (fun k => w.heap.size + 3 ≤ k) w' gv f vs ∧ Below w.heap.size w w' := by
  obtain ⟨a, acap, rfl, ha1, ha2⟩ := ha.shape
  have HA := hide (fun i l (hl : f[i]? = some l) => ha.row hl)
  have HM := hide hM
  clear hM
  unfold maxLen at ha2
  clear ha
  obtain ⟨L, hL⟩ : ∃ L, Hid (f.length = L) := ⟨_, hide rfl⟩
  rw [unhide hL] at ha1 hN ⊢
  have HX := hide (LS.start w (.slice a L acap) f)
  go_enter Try.func5, Try.ntmps5
  go_wp2_with fail
  go_loopg [4] L (fun gg t4 wr => ∃ (i : Nat) (gv : Value) (vs : List Value), Hid (i + gg = L) ∧ t4 = .int .i64 (i : Int) ∧ Hid (LS w (.slice a L acap) f i gv vs wr))
  case atStart => exact ⟨0, _, _, by unfold Hid; omega, rfl, HX⟩
  case round =>
    clear HX
    obtain ⟨i, gv, vs, hi, rfl, hS⟩ := hrel
    obtain ⟨c0, f0, z0⟩ := blk_cells (unhide hS).b0
    obtain ⟨c1, f1, z1⟩ := blk_cells (unhide hS).b1
    obtain ⟨c2, f2, z2⟩ := blk_cells (unhide hS).b2
    have q0 := c0 0
    have q1 := c1 0
    have q2 := c2 0
    simp at q0 q1 q2
    have g1 := f1 0
    have g2 := f2 0
    clear c0 c1 c2 f0 f1 f2
    by_cases hlt : i < L
    · have hil : i < f.length := by rw [unhide hL]; exact hlt
      obtain ⟨p, hp⟩ : ∃ p, f[i]? = some p := ⟨_, List.getElem?_eq_getElem hil⟩
      obtain ⟨ab, ao, la, lc, ea, ha4, ca, ra, ha5, ha6⟩ := unhide HA i p hp
      subst ea
      have hpm := unhide HM p (List.mem_of_getElem? hp)
      unfold maxLen at ha6
      have k0 : wr.cell? ⟨ab, ao + i, none⟩ = some (.slice la p.length lc) := ((unhide hS).bl.cell (p := ⟨ab, ao + i, none⟩) ha4).trans ca
      have hbr := Nat.lt_of_lt_of_le ha4 (unhide hS).bl.size
      have i0 : (0 : Int) ≤ (i : Int) := by omega
      have i1 : (i : Int) < (L : Int) := by omega
      have HP := hide hp
      have HCA := hide ca
      obtain ⟨N, hNN⟩ : ∃ N, Hid (p.length = N) := ⟨_, hide rfl⟩
      obtain ⟨v1, w1, hrun, hr1, hg1, hat1⟩ := Ro.appX (P := Try.prog) 53 53 56 _ Try.underlying53 infS rfl (by decide) (Ro.nil wr 4) (ra.below (unhide hS).bl (Nat.le_refl _)) (oneS p) (by unfold maxLen; omega) (by omega)
      rw [unhide hNN] at k0 ha5 HCA hrun hpm
      have HG : Hid (Gx wr 4 enS (p ++ mkS 0) v1 w1) := by
        have f1 : Fr (fun _ => False) wr w1 := (Fr.refl _ wr).grown hg1 (fun k e => by simp [Value.ownBlock] at e)
        refine ⟨by simpa [mkS] using hr1, f1.below (Nat.le_refl _) (fun _ _ e => e), fun k hk => ?_⟩
        rcases hat1 with q | q
        · rw [q] at hk; simp [Value.ownBlock] at hk
        · rw [q] at hk; cases hk; exact Nat.le_refl _
      have HRUN := hide hrun
      clear hr1 hg1 hat1 hrun hp ca ra
      obtain ⟨G0, hG0⟩ : ∃ G0 : Nat, Hid (G0 = gk) := ⟨_, hide rfl⟩
      go_wp2_with (first | (at_builtin; refine wpList_appRun rfl _ _ rfl rfl rfl (unhide HRUN) ?_))
      clear HRUN q0 q1 q2 g1 g2 z0 z1 z2 k0 hbr
      go_wp2_with fail
      obtain ⟨Y, hY⟩ : ∃ Y : World, Y = wr := ⟨_, rfl⟩
      subst hY
      go_loopg [5, 6] 64 (fun g t5 t6 wq => ∃ (j : Nat) (cv : Value), Hid (j + g = 64) ∧ t5 = cv ∧ t6 = .int .i64 (j : Int) ∧ Hid (Gx Y 4 enS (p ++ mkS j) cv wq))
      case atStart => exact ⟨0, v1, by unfold Hid; omega, rfl, rfl, HG⟩
      case round =>
        clear HG
        obtain ⟨j, cv, hj, hcv, rfl, hG⟩ := hrel
        have hlj : (p ++ mkS j).length = N + j := by rw [List.length_append, mkS_length, unhide hNN]
        have HLS := hide ((unhide hS).on (unhide hG).2.1)
        by_cases hjt : j < 64
        · subst hcv
          have j0 : (0 : Int) ≤ (j : Int) := by omega
          have j1 : (j : Int) < 64 := by omega
          have HRo := hide (unhide hG).1
          have HLJ := hide hlj
          have HLB : Hid ((p ++ mkS j).length ≤ 5864062014700) := by rw [hlj]; unfold Hid; omega
          clear hlj
          go_wp2_with (first | (at_builtin; refine appS rfl _ _ rfl _ (p ++ mkS j) rfl ((unhide HRo).keep (fun g hg => Below.heap_alloc _ _ _ ((unhide HRo).lt g hg))) ⟨wr.heap.size, 0, none⟩ 1 ⟨-9, 0, 0, (j : Int)⟩ rfl (new_cells _ _ _) (unhide HLB) ?_))
          intro v' w' hr hg hat
          have HG2 := hide ((unhide hG).push hr (by rw [List.length_append]) hg (by simpa using hat))
          rw [List.append_assoc, ← mkS_succ] at HG2
          clear hr hg hat HRo HLJ HLB HLS
          go_wp2_with fail
          go_roundg (gk - 1)
          case measure => have := unhide hj; omega
          case rel => exact ⟨j + 1, v', by have := unhide hj; unfold Hid; omega, rfl, by go_num, HG2⟩
        · have hj64 : j = 64 := by have := unhide hj; omega
          subst hj64
          obtain ⟨nb, no, nc, en, hn1, hn2, hn3, hn4⟩ := (unhide hG).1.full (by omega)
          rw [hlj] at en hn1
          rw [en] at hcv
          subst hcv
          have HR5 := hide (unhide hG).1
          have hnb := (unhide hG).2.2
          rw [hlj, en] at HR5
          rw [en] at hnb
          have hnb0 := hnb nb rfl
          unfold maxLen at hn2
          have HBY := hide (unhide hG).2.1
          clear hG hn4 hnb hlj en
          obtain ⟨c0, f0, z0⟩ := blk_cells (unhide HLS).b0
          obtain ⟨c2, f2, z2⟩ := blk_cells (unhide HLS).b2
          have q0 := c0 0
          have q2 := c2 0
          simp at q0 q2
          have k0 : wr.cell? ⟨ab, ao + i, none⟩ = some (.slice la N lc) := ((unhide HLS).bl.cell (p := ⟨ab, ao + i, none⟩) ha4).trans (unhide HCA)
          have hbr := Nat.lt_of_lt_of_le ha4 (unhide HLS).bl.size
          have HSV : Hid (wr.drew.cell? ⟨w.heap.size, 0, none⟩ = some (.slice (some ⟨ab, ao, none⟩) L acap) ∧ wr.drew.cell? ⟨ab, ao + i, none⟩ = some (.slice la N lc)) := ⟨q0, k0⟩
          obtain ⟨V, hV⟩ : ∃ V, Hid (wr.drew = V) := ⟨_, hide rfl⟩
          have HVB : Hid (Below wr.heap.size wr V) := by rw [← unhide hV]; exact bl_drew wr
          have g2' : V.cell? ⟨w.heap.size + 1 + 1, 0, none⟩ = some gv := by rw [← unhide hV]; exact q2
          have gz : w.heap.size + 1 + 1 < V.heap.size := by rw [← unhide hV]; exact z2
          have HSD := HSV
          rw [unhide hV] at HSV
          obtain ⟨Wa, hWa⟩ : ∃ Wa, Hid (V.alloc (.cells #[.slice (some ⟨nb, no, none⟩) N nc] 53) = Wa) := ⟨_, hide rfl⟩
          have HBa : Hid (Below wr.heap.size wr Wa) := by rw [← unhide hWa]; exact (unhide HVB).alloc (unhide HVB).size _
          have hil' := hil
          obtain ⟨i0r, hi0r, hz0r, hz1r, hz2r⟩ := info_parts infR
          have hgow : Ro Wa 1 gv i (flt enV vs) := by
            have := ((unhide HLS).ow.below staysL (unhide HBa)).row
            rwa [List.length_take, Nat.min_eq_left (by omega)] at this
          have hvl : Wa.heap.size = V.heap.size + 1 := by rw [← unhide hWa]; simp
          obtain ⟨v', w3, hrun, hr3, hg3, hat3⟩ := Ro.app (P := Try.prog) 26 26 53 i0r _ 1 24 Try.underlying26 hi0r hz0r hz1r hz2r rfl (by decide) hgow ⟨V.heap.size, 0, none⟩ 1 1 [.slice (some ⟨nb, no, none⟩) N nc] rfl (by rw [← unhide hWa]; exact new_cells _ _ _) (by simp [Value.oneCell']) (by omega) (by unfold maxLen; omega) (by omega)
          obtain ⟨va, vc, ev, _, _⟩ := hr3.shape
          subst ev
          have HRUN := hide hrun
          have HBY2 : Hid (Below Y.heap.size Y Wa) := bl_past (unhide HBY) (unhide HBa)
          have HLN : Hid (LS w (.slice (some ⟨ab, ao, none⟩) L acap) f (i + 1) (.slice va (i + 1) vc) (vs ++ [.slice (some ⟨nb, no, none⟩) N nc]) (w3.setCell ⟨w.heap.size + 1 + 1, 0, none⟩ (.slice va (i + 1) vc))) := by
            refine (unhide hS).push (unhide HP) (unhide HBY2) (u := .slice (some ⟨nb, no, none⟩) N nc) ⟨nb, no, nc, by rw [unhide hNN], ?_⟩ (fun k hk => ?_) hr3 rfl hg3 hat3
            · rw [unhide hNN]
              exact (unhide HR5).fr (Fr.of_below (S := fun _ => False) (unhide HBa)) (fun _ _ e => e)
            · cases hk
              exact ⟨hnb0, Nat.lt_of_lt_of_le hn3 (unhide HBa).size⟩
          have HSa : Hid (Wa.cell? ⟨w.heap.size, 0, none⟩ = some (.slice (some ⟨ab, ao, none⟩) L acap) ∧ Wa.cell? ⟨ab, ao + i, none⟩ = some (.slice la N lc)) := ⟨((unhide HBa).cell (p := ⟨w.heap.size, 0, none⟩) z0).trans q0, ((unhide HBa).cell (p := ⟨ab, ao + i, none⟩) hbr).trans k0⟩
          have ga : Wa.cell? ⟨w.heap.size + 1 + 1, 0, none⟩ = some gv := ((unhide HBa).cell (p := ⟨w.heap.size + 1 + 1, 0, none⟩) z2).trans q2
          have gaz : w.heap.size + 1 + 1 < Wa.heap.size := by rw [hvl]; omega
          have hgb : ∀ k, gv.ownBlock = some k → w.heap.size + 3 ≤ k := (unhide hS).ow.rb
          have f3 : Fr (fun k => gv.ownBlock = some k) Wa w3 := (Fr.refl _ Wa).grown hg3 (fun k e => .inr e)
          have hz0a : w.heap.size < Wa.heap.size := by omega
          have HSw : Hid (w3.cell? ⟨w.heap.size, 0, none⟩ = some (.slice (some ⟨ab, ao, none⟩) L acap) ∧ w3.cell? ⟨ab, ao + i, none⟩ = some (.slice la N lc)) :=
            ⟨(f3.cell (a := ⟨w.heap.size, 0, none⟩) hz0a (fun e => by have := hgb w.heap.size e; omega)).trans (unhide HSa).1, (f3.cell (a := ⟨ab, ao + i, none⟩) (Nat.lt_of_lt_of_le hbr (unhide HBa).size) (fun e => by have := hgb ab e; have h4 : ab < w.heap.size := ha4; omega)).trans (unhide HSa).2⟩
          have g3 : w3.cell? ⟨w.heap.size + 1 + 1, 0, none⟩ = some gv := (f3.cell (a := ⟨w.heap.size + 1 + 1, 0, none⟩) gaz (fun e => by have := hgb (w.heap.size + 1 + 1) e; omega)).trans ga
          have g3f : w3.frozen? ⟨w.heap.size + 1 + 1, 0, none⟩ = false := by
            refine (f3.frozen (a := ⟨w.heap.size + 1 + 1, 0, none⟩) gaz (fun e => by have := hgb (w.heap.size + 1 + 1) e; omega)).trans ?_
            exact (World.frozen?_of_block ((unhide HBa).block _ z2)).trans (f2 0)
          have g3z : w.heap.size + 1 + 1 < w3.heap.size := Nat.lt_of_lt_of_le gaz f3.size
          have HSz : Hid ((w3.setCell ⟨w.heap.size + 1 + 1, 0, none⟩ (.slice va (i + 1) vc)).cell? ⟨w.heap.size, 0, none⟩ = some (.slice (some ⟨ab, ao, none⟩) L acap) ∧ (w3.setCell ⟨w.heap.size + 1 + 1, 0, none⟩ (.slice va (i + 1) vc)).cell? ⟨ab, ao + i, none⟩ = some (.slice la N lc)) := by
            have fz : Fr (fun k => k = w.heap.size + 1 + 1) w3 (w3.setCell ⟨w.heap.size + 1 + 1, 0, none⟩ (.slice va (i + 1) vc)) := Fr.setCell (S := fun k => k = w.heap.size + 1 + 1) (Fr.refl _ w3) ⟨w.heap.size + 1 + 1, 0, none⟩ (.inr rfl) (.slice va (i + 1) vc)
            have hz3 := f3.size
            exact ⟨(fz.cell (a := ⟨w.heap.size, 0, none⟩) (by show w.heap.size < w3.heap.size; omega) (by show ¬ w.heap.size = _; omega)).trans (unhide HSw).1, (fz.cell (a := ⟨ab, ao + i, none⟩) (by show ab < w3.heap.size; have h4 : ab < w.heap.size := ha4; omega) (by show ¬ ab = _; have h4 : ab < w.heap.size := ha4; omega)).trans (unhide HSw).2⟩
          have n0 : (0 : Int) ≤ (N : Int) := by omega
          have n1 : (N : Int) ≤ (nc : Int) := by omega
          clear hrun hr3 hg3 hat3 hgow hvl HBY HBY2 HVB hgb f3 c0 f0 c2 f2 HLS HR5 hi0r hz0r hz1r hz2r HBa
          go_wp2_with fail
          refine wp_region_held_drew (S := (fun W => W.cell? ⟨w.heap.size, 0, none⟩ = some (.slice (some ⟨ab, ao, none⟩) L acap) ∧ W.cell? ⟨ab, ao + i, none⟩ = some (.slice la N lc))) (by kernel_rfl) (unhide HSD) (fun hHeld => ?_)
          clear hHeld
          rw [unhide hV]
          refine wpAnyH_take (i := 0) (oi := _) (v := .pointer (some ⟨w.heap.size + 1 + 1, 0, none⟩)) rfl (by kernel_rfl) (by kernel_rfl) (by kernel_rfl) (fun _ _ _ h => h) (Or.inl ⟨by rfl, (by intro w' hSw; obtain ⟨s0, s1⟩ := hSw; go_simp)⟩) (unhide HSV) ?_
          go_simp
          refine wpAnyH_take (i := 2) (oi := _) (v := .slice (some ⟨nb, no, none⟩) (N + 64) nc) rfl (by kernel_rfl) (by kernel_rfl) (by kernel_rfl) (fun _ _ _ h => h) (Or.inl ⟨by rfl, (by intro w' hSw; obtain ⟨s0, s1⟩ := hSw; go_simp)⟩) (unhide HSV) ?_
          go_simp
          refine wpAnyH_take (i := 3) (oi := _) (v := .pointer (some ⟨w.heap.size, 0, none⟩)) rfl (by kernel_rfl) (by kernel_rfl) (by kernel_rfl) (fun _ _ _ h => h) (Or.inl ⟨by rfl, (by intro w' hSw; obtain ⟨s0, s1⟩ := hSw; go_simp)⟩) (unhide HSV) ?_
          go_simp
          refine wpAnyH_take (i := 4) (oi := _) (v := .slice (some ⟨ab, ao, none⟩) L acap) rfl (by kernel_rfl) (by kernel_rfl) (by kernel_rfl) (fun _ _ _ h => h) (Or.inl ⟨by rfl, (by intro w' hSw; obtain ⟨s0, s1⟩ := hSw; go_simp)⟩) (unhide HSV) ?_
          go_simp
          refine wpAnyH_take (i := 5) (oi := _) (v := .int .i64 (i : Int)) rfl (by kernel_rfl) (by kernel_rfl) (by kernel_rfl) (fun _ _ _ h => h) (Or.inl ⟨by rfl, (by intro w' hSw; obtain ⟨s0, s1⟩ := hSw; go_simp)⟩) (unhide HSV) ?_
          go_simp
          refine wpAnyH_take (i := 6) (oi := _) (v := .pointer (some ⟨ab, ao + i, none⟩)) rfl (by kernel_rfl) (by kernel_rfl) (by kernel_rfl) (fun _ _ _ h => h) (Or.inl ⟨by rfl, (by intro w' hSw; obtain ⟨s0, s1⟩ := hSw; go_simp)⟩) (unhide HSV) ?_
          go_simp
          refine wpAnyH_take (i := 7) (oi := _) (v := .slice la N lc) rfl (by kernel_rfl) (by kernel_rfl) (by kernel_rfl) (fun _ _ _ h => h) (Or.inl ⟨by rfl, (by intro w' hSw; obtain ⟨s0, s1⟩ := hSw; go_simp)⟩) (unhide HSV) ?_
          go_simp
          refine wpAnyH_take (i := 8) (oi := _) (v := .int .i64 (N : Int)) rfl (by kernel_rfl) (by kernel_rfl) (by kernel_rfl) (fun _ _ _ h => h) (Or.inl ⟨by rfl, (by intro w' hSw; obtain ⟨s0, s1⟩ := hSw; go_simp)⟩) (unhide HSV) ?_
          go_simp
          refine wpAnyH_take (i := 9) (oi := _) (v := .slice (some ⟨nb, no, none⟩) N nc) rfl (by kernel_rfl) (by kernel_rfl) (by kernel_rfl) (fun _ _ _ h => h) (Or.inl ⟨by rfl, (by intro w' hSw; obtain ⟨s0, s1⟩ := hSw; go_simp)⟩) (unhide HSV) ?_
          go_simp
          refine wpAnyH_ready (rs := [1, 10]) (by kernel_rfl) (by simp) ?_
          refine AllReadyH.cons (o := _) rfl (fun K hK => ?_) (AllReadyH.cons (o := _) rfl (fun K hK => ?_) AllReadyH.nil)
          · go_simp
            refine hK.out _ _ (unhide HSV) (fun _ => ?_)
            clear hK K
            go_simp
            refine wpAnyH_ready (rs := [10]) (by kernel_rfl) (by simp) ?_
            refine AllReadyH.cons (o := _) rfl (fun K hK => ?_) AllReadyH.nil
            go_simp
            rw [unhide hWa]
            refine hK.out _ _ (unhide HSa) (fun _ => ?_)
            clear hK K
            go_simp
            refine wpAnyH_ready (rs := [11]) (by kernel_rfl) (by simp) ?_
            refine AllReadyH.cons (o := _) rfl (fun K hK => ?_) AllReadyH.nil
            refine step_appRun rfl _ _ (by rfl) _ _ _ (by rfl) (by rfl) (unhide HRUN) ?_
            refine hK.out _ _ (unhide HSw) (fun _ => ?_)
            clear hK K
            go_simp
            refine wpAnyH_take (i := 12) (oi := _) (v := .pointer (some ⟨w.heap.size + 1 + 1, 0, none⟩)) rfl (by kernel_rfl) (by kernel_rfl) (by kernel_rfl) (fun _ _ _ h => h) (Or.inl ⟨by rfl, (by intro w' hSw; obtain ⟨s0, s1⟩ := hSw; go_simp)⟩) (unhide HSw) ?_
            go_simp
            refine wpAnyH_ready (rs := [13]) (by kernel_rfl) (by simp) ?_
            refine AllReadyH.cons (o := _) rfl (fun K hK => ?_) AllReadyH.nil
            go_simp
            refine hK.out _ _ (unhide HSz) (fun _ => ?_)
            clear hK K
            go_simp
            refine wpAnyH_done (by kernel_rfl) ?_ _
            go_wp2_with fail
            go_roundg (G0 - 1)
            case measure => have h1 := unhide hG0; have h2 := unhide hi; omega
            case rel => exact ⟨i + 1, _, vs ++ [.slice (some ⟨nb, no, none⟩) N nc], by have h1 := unhide hG0; have h2 := unhide hi; unfold Hid; omega, by go_num, HLN⟩
          · go_simp
            rw [unhide hWa]
            refine hK.out _ _ (unhide HSa) (fun _ => ?_)
            clear hK K
            go_simp
            refine wpAnyH_ready (rs := [1]) (by kernel_rfl) (by simp) ?_
            refine AllReadyH.cons (o := _) rfl (fun K hK => ?_) AllReadyH.nil
            go_simp
            refine hK.out _ _ (unhide HSa) (fun _ => ?_)
            clear hK K
            go_simp
            refine wpAnyH_ready (rs := [11]) (by kernel_rfl) (by simp) ?_
            refine AllReadyH.cons (o := _) rfl (fun K hK => ?_) AllReadyH.nil
            refine step_appRun rfl _ _ (by rfl) _ _ _ (by rfl) (by rfl) (unhide HRUN) ?_
            refine hK.out _ _ (unhide HSw) (fun _ => ?_)
            clear hK K
            go_simp
            refine wpAnyH_take (i := 12) (oi := _) (v := .pointer (some ⟨w.heap.size + 1 + 1, 0, none⟩)) rfl (by kernel_rfl) (by kernel_rfl) (by kernel_rfl) (fun _ _ _ h => h) (Or.inl ⟨by rfl, (by intro w' hSw; obtain ⟨s0, s1⟩ := hSw; go_simp)⟩) (unhide HSw) ?_
            go_simp
            refine wpAnyH_ready (rs := [13]) (by kernel_rfl) (by simp) ?_
            refine AllReadyH.cons (o := _) rfl (fun K hK => ?_) AllReadyH.nil
            go_simp
            refine hK.out _ _ (unhide HSz) (fun _ => ?_)
            clear hK K
            go_simp
            refine wpAnyH_done (by kernel_rfl) ?_ _
            go_wp2_with fail
            go_roundg (G0 - 1)
            case measure => have h1 := unhide hG0; have h2 := unhide hi; omega
            case rel => exact ⟨i + 1, _, vs ++ [.slice (some ⟨nb, no, none⟩) N nc], by have h1 := unhide hG0; have h2 := unhide hi; unfold Hid; omega, by go_num, HLN⟩
    · have hiL : i = L := by have := unhide hi; omega
      subst hiL
      have HO := hide (unhide hS).ow
      rw [List.take_of_length_le (by rw [unhide hL]; exact Nat.le_refl _)] at HO
      obtain ⟨ga, gc, eg, _, _⟩ := (unhide HO).row.shape
      subst eg
      have HBL := hide (unhide hS).bl
      clear HA HM hS
      go_wp2_with fail
      refine bodyPost_ret (v := .agg #[.slice ga f.length gc]) ?_ rfl ?_
      · rw [results_cell_one rfl]
        go_simp
      · refine ⟨_, vs, rfl, ?_, ?_⟩
        · exact (unhide HO).frZ staysL (Fr.setCell (S := fun k => k = w.heap.size + 1) (Fr.refl _ _) _ (.inr rfl) _) (fun k _ hk e => by omega)
        · exact (unhide HBL).trans ((Fr.setCell (S := fun k => k = w.heap.size + 1) (Fr.refl _ _) _ (.inr rfl) _).below (unhide HBL).size (fun k hk e => by omega))
end Go.Proofs.Ytjjfpokmpcpicaa
