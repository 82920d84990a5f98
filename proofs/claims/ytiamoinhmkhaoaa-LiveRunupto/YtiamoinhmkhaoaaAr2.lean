/-
  ApartRegs of codes of one's own.
-/
import Derived.Test.YtiamoinhmkhaoaaAr1
import Derived.Test.YtiamoinhmkhaoaaAl
import Derived.Test.YtiamoinhmkhaoaaGw
namespace Go.Proofs.Ytiamoinhmkhaoaa
open Go.RowKit
set_option linter.unusedVariables false
set_option linter.unusedSimpArgs false
theorem apO_all {w0 : World} {gO : Value} {vs : List Value} (hr : Ro w0 1 gO vs.length (flt enV vs)) (hro : ∀ a ∈ vs, ∃ l : List Op, l.length ≤ 1048576 ∧ Ro w0 2 a l.length (flt enO l)) (hp : vs.Pairwise Ap2) (hn : ∀ a ∈ vs, ∀ q, a.ownBlock = some q → gO.ownBlock ≠ some q) (hR : vs.length ≤ 3000000) :
    Calls Try.prog 27 #[gO] w0 fun e w' => e = .returned (.bool true) ∧ Fr (fun q => ∃ a ∈ vs, a.ownBlock = some q) w0 w' := by
  rcases hr.2 with ⟨e, h0⟩ | ⟨g, off, cap, cur, t, e, hh, h3, h4, h5, h6⟩
  · rw [e]
    exact (apartO0 w0).mono fun e w' ⟨he, hb⟩ => ⟨he, Fr.of_below hb⟩
  · have key : ∀ k, k < vs.length → ∃ a, vs[k]? = some a ∧ (vs[k]?).getD (.slice none 0 0) = a ∧ a ∈ vs := fun k hk => ⟨vs[k], List.getElem?_eq_getElem hk, by simp [hk], List.getElem_mem hk⟩
    have has : AS vs.length w0 g off (fun k => (vs[k]?).getD (.slice none 0 0)) (fun k => slen ((vs[k]?).getD (.slice none 0 0))) := by
      refine ⟨fun k hk => ?_, fun k hk => ?_, fun k b hk hb e2 => ?_, fun j j' b hj hj' hjj hb hb2 => ?_, fun k => ?_, hR⟩
      · obtain ⟨a, ha, hd, _⟩ := key k hk
        obtain ⟨b, o, c, e2, _, _, _, q⟩ := (Rx.of_ro hr).elem zV ha
        rw [e] at e2
        cases e2
        have := q 0 _ rfl
        rw [Nat.mul_one, Nat.add_zero] at this
        rw [hd]
        exact this
      · obtain ⟨a, ha, hd, hm⟩ := key k hk
        obtain ⟨l, hl, hl2⟩ := hro a hm
        obtain ⟨va, vc, ev, _⟩ := hl2.shape
        have hs : slen a = l.length := by rw [ev]; rfl
        try dsimp only
        rw [hd, hs]
        exact ⟨l.map (fun o => (o.k, o.n)), by simp, by rw [← flt_OP]; exact hl2⟩
      · obtain ⟨a, ha, hd, hm⟩ := key k hk
        try dsimp only at hb
        rw [hd] at hb
        exact hn a hm b hb (by rw [e, e2]; rfl)
      · obtain ⟨a, ha, hd, hm⟩ := key j hj
        obtain ⟨a', ha', hd', hm'⟩ := key j' hj'
        try dsimp only at hb hb2
        rw [hd] at hb
        rw [hd'] at hb2
        exact pw_at hp (fun _ _ h => h.symm) hjj ha ha' b hb hb2
      · by_cases hk : k < vs.length
        · obtain ⟨a, ha, hd, hm⟩ := key k hk
          obtain ⟨l, hl, hl2⟩ := hro a hm
          obtain ⟨va, vc, ev, _⟩ := hl2.shape
          have hs : slen a = l.length := by rw [ev]; rfl
          try dsimp only
          rw [hd, hs]
          exact hl
        · try dsimp only
          rw [List.getElem?_eq_none (by omega)]
          exact Nat.zero_le _
    rw [e]
    exact (apartO vs.length w0 g off cap _ _ has).mono fun e w' ⟨he, hb⟩ => ⟨he, hb.mono (fun q _ ⟨j, hj, hq⟩ => by
      obtain ⟨a, ha, hd, hm⟩ := key j hj
      try dsimp only at hq
      rw [hd] at hq
      exact ⟨a, hm, hq⟩)⟩
theorem apI_all {w0 : World} {gO : Value} {vs : List Value} (hr : Ro w0 1 gO vs.length (flt enV vs)) (hro : ∀ a ∈ vs, ∃ l : List Int, l.length ≤ 1048576 ∧ Ro w0 1 a l.length (flt enI l)) (hp : vs.Pairwise Ap2) (hn : ∀ a ∈ vs, ∀ q, a.ownBlock = some q → gO.ownBlock ≠ some q) (hR : vs.length ≤ 3000000) :
    Calls Try.prog 28 #[gO] w0 fun e w' => e = .returned (.bool true) ∧ Fr (fun q => ∃ a ∈ vs, a.ownBlock = some q) w0 w' := by
  rcases hr.2 with ⟨e, h0⟩ | ⟨g, off, cap, cur, t, e, hh, h3, h4, h5, h6⟩
  · rw [e]
    exact (apartI0 w0).mono fun e w' ⟨he, hb⟩ => ⟨he, Fr.of_below hb⟩
  · have key : ∀ k, k < vs.length → ∃ a, vs[k]? = some a ∧ (vs[k]?).getD (.slice none 0 0) = a ∧ a ∈ vs := fun k hk => ⟨vs[k], List.getElem?_eq_getElem hk, by simp [hk], List.getElem_mem hk⟩
    have has : ag.AS enI 1 vs.length w0 g off (fun k => (vs[k]?).getD (.slice none 0 0)) (fun k => slen ((vs[k]?).getD (.slice none 0 0))) := by
      refine ⟨fun k hk => ?_, fun k hk => ?_, fun k b hk hb e2 => ?_, fun j j' b hj hj' hjj hb hb2 => ?_, fun k => ?_, hR⟩
      · obtain ⟨a, ha, hd, _⟩ := key k hk
        obtain ⟨b, o, c, e2, _, _, _, q⟩ := (Rx.of_ro hr).elem zV ha
        rw [e] at e2
        cases e2
        have := q 0 _ rfl
        rw [Nat.mul_one, Nat.add_zero] at this
        rw [hd]
        exact this
      · obtain ⟨a, ha, hd, hm⟩ := key k hk
        obtain ⟨l, hl, hl2⟩ := hro a hm
        obtain ⟨va, vc, ev, _⟩ := hl2.shape
        have hs : slen a = l.length := by rw [ev]; rfl
        try dsimp only
        rw [hd, hs]
        exact ⟨l, rfl, hl2⟩
      · obtain ⟨a, ha, hd, hm⟩ := key k hk
        try dsimp only at hb
        rw [hd] at hb
        exact hn a hm b hb (by rw [e, e2]; rfl)
      · obtain ⟨a, ha, hd, hm⟩ := key j hj
        obtain ⟨a', ha', hd', hm'⟩ := key j' hj'
        try dsimp only at hb hb2
        rw [hd] at hb
        rw [hd'] at hb2
        exact pw_at hp (fun _ _ h => h.symm) hjj ha ha' b hb hb2
      · by_cases hk : k < vs.length
        · obtain ⟨a, ha, hd, hm⟩ := key k hk
          obtain ⟨l, hl, hl2⟩ := hro a hm
          obtain ⟨va, vc, ev, _⟩ := hl2.shape
          have hs : slen a = l.length := by rw [ev]; rfl
          try dsimp only
          rw [hd, hs]
          exact hl
        · try dsimp only
          rw [List.getElem?_eq_none (by omega)]
          exact Nat.zero_le _
    rw [e]
    exact (apartI vs.length w0 g off cap _ _ has).mono fun e w' ⟨he, hb⟩ => ⟨he, hb.mono (fun q _ ⟨j, hj, hq⟩ => by
      obtain ⟨a, ha, hd, hm⟩ := key j hj
      try dsimp only at hq
      rw [hd] at hq
      exact ⟨a, hm, hq⟩)⟩
/-- Marks change no length. -/
theorem fm_len {A C : Type} (f : A → List C) (l : List A) : (l.flatMap f).length = (l.map (fun x => (f x).length)).sum := by simp
theorem mapIdx_sum {A : Type} (g : Nat → A → A) (f : A → Nat) (hg : ∀ i x, f (g i x) = f x) (l : List A) : ((l.mapIdx g).map f).sum = (l.map f).sum := by
  congr 1
  refine List.ext_getElem? (fun j => ?_)
  simp only [List.getElem?_map, List.getElem?_mapIdx]
  cases l[j]? with
  | none => rfl
  | some x => simp [hg]
theorem mk_lenI (m : Mks) (cs : List TC) : ((cs.mapIdx (mkC m)).flatMap Prod.snd).length = (cs.flatMap Prod.snd).length := by
  rw [fm_len, fm_len]
  exact mapIdx_sum _ _ (fun i c => by simp [mkC]) cs
theorem mk_lenE (m : Mks) (cs : List TC) : (((cs.mapIdx (mkC m)).flatMap Prod.snd).flatMap Prod.snd).length = ((cs.flatMap Prod.snd).flatMap Prod.snd).length := by
  rw [List.flatMap_assoc, List.flatMap_assoc, fm_len, fm_len]
  refine mapIdx_sum _ _ (fun i c => ?_) cs
  simp only [mkC]
  rw [fm_len, fm_len]
  exact mapIdx_sum _ _ (fun i x => by simp [mkB]) c.2
theorem mk_lenS (m : Mks) {cs : List TC} {n : Nat} (h : ∀ c ∈ cs, ∀ x ∈ c.2, ∀ t ∈ x.2, t.2.length ≤ n) : ∀ c ∈ cs.mapIdx (mkC m), ∀ x ∈ c.2, ∀ t ∈ x.2, t.2.length ≤ n := fun c hc x hx t ht => by
  obtain ⟨i, hi, rfl⟩ := List.mem_mapIdx.1 hc
  obtain ⟨j, hj, rfl⟩ := List.mem_mapIdx.1 hx
  obtain ⟨k, hk, rfl⟩ := List.mem_mapIdx.1 ht
  simp only [mkI, List.length_mapIdx]
  exact h _ (List.getElem_mem hi) _ (List.getElem_mem hj) _ (List.getElem_mem hk)
theorem vC_len (cs : List TC) : ((cs.flatMap Prod.snd).flatMap Prod.snd).length ≤ (vC cs).length ∧ (cs.flatMap Prod.snd).length = (nC cs).length ∧ ∀ c ∈ cs, ∀ x ∈ c.2, ∀ t ∈ x.2, t.2.length ≤ (vC cs).length := by
  refine ⟨?_, ?_, fun c hc x hx t ht => ?_⟩
  · induction cs with
    | nil => simp [vC]
    | cons c r ih =>
      simp only [vC, List.flatMap_cons, List.flatMap_append, List.length_append] at ih ⊢
      have h2 : ∀ X : List TB, (X.flatMap Prod.snd).length ≤ (vX X).length := fun X => by
        induction X with
        | nil => simp [vX]
        | cons x r ih =>
          simp only [vX, List.flatMap_cons, List.length_append] at ih ⊢
          have h3 : ∀ l : List TI, l.length ≤ (vT l).length := fun l => by
            induction l with
            | nil => simp [vT]
            | cons t r ih => simp only [vT, List.flatMap_cons, List.length_append, List.length_cons, vI] at ih ⊢; omega
          have := h3 x.2
          omega
      have := h2 c.2
      omega
  · simp [nC, nX, fm_len]
  · have h1 : (vI t).length ≤ (vC cs).length := by
      have e : vC cs = cs.flatMap (fun c => c.2.flatMap (fun x => x.2.flatMap vI)) := rfl
      have key : ∀ {A C : Type} (f : A → List C) (l : List A) (a : A), a ∈ l → (f a).length ≤ (l.flatMap f).length := fun f l a ha => by
        induction l with
        | nil => cases ha
        | cons b r ih =>
          rw [List.flatMap_cons, List.length_append]
          rcases List.mem_cons.1 ha with rfl | ha
          · omega
          · have := ih ha; omega
      rw [e]
      exact Nat.le_trans (Nat.le_trans (key vI x.2 t ht) (key (fun x : TB => x.2.flatMap vI) c.2 x hx)) (key (fun c : TC => c.2.flatMap (fun x => x.2.flatMap vI)) cs c hc)
    have : t.2.length ≤ (vI t).length := by simp [vI]
    omega
set_option maxRecDepth 100000 in
set_option maxHeartbeats 12800000 in
theorem apartRegs_any {Z : Nat → Prop} {w : World} {lb lo lc : Nat} {us : List (List Bk)} {cs : List TC} (h : OWC Z w (.slice (some ⟨lb, lo, none⟩) cs.length lc) us cs) (hk : OkU us) (hR0 : cs.length ≤ 1000000) (hV0 : (vC cs).length ≤ 3000000) (hN0 : (nC cs).length ≤ 3000000) :
    Calls Try.prog 12 #[.slice (some ⟨lb, lo, none⟩) cs.length lc] w fun e w' => e = .returned (.bool true) ∧ Fr (fun q => lb = q ∨ ∃ c ∈ cs, blCd c q) w w' := by
  have hcel : cs.length ≤ lc := by
    obtain ⟨_, _, es, h1, _⟩ := (OWC.loc h).row.shape
    cases es
    exact h1
  have hlb : lb < w.heap.size := (OWC.loc h).row.lt lb rfl
  obtain ⟨R, hR⟩ : ∃ R, Hid (cs.length = R) := ⟨_, hide rfl⟩
  have H := hide h
  have HLO := hide (OWC.loc h)
  have HK := hide hk
  have HV0 := hide hV0
  have HN0 := hide hN0
  have HS0 := hide (GL.start w)
  rw [unhide hR] at hR0 hcel H HLO ⊢
  clear h hk hV0 hN0
  go_enter Try.func12, Try.ntmps12
  go_wp2_with fail
  go_loopg [3, 4, 5] R (fun g t3 t4 t5 wr => ∃ (k : Nat) (gO gN : Value), Hid (k + g = R) ∧ t3 = gO ∧ t4 = gN ∧ t5 = .int .i64 (k : Int) ∧ Hid (GL w (vC (cs.take k)) (nC (cs.take k)) gO gN wr))
  case atStart => exact ⟨0, _, _, by unfold Hid; omega, rfl, rfl, rfl, HS0⟩
  case round =>
    clear HS0
    obtain ⟨k, gO, gN, hk, h3, h4, rfl, hG⟩ := hrel
    replace h3 := h3.symm
    replace h4 := h4.symm
    subst h3 h4
    by_cases hlt : k < R
    · obtain ⟨c, hc⟩ : ∃ c, cs[k]? = some c := ⟨_, List.getElem?_eq_getElem (by rw [unhide hR]; exact hlt)⟩
      obtain ⟨u, hu⟩ : ∃ u, us[k]? = some u := ⟨_, List.getElem?_eq_getElem (by have := (unhide H).len; have := unhide hR; omega)⟩
      obtain ⟨g, off, cap, e, _, _, hg, hcl, _⟩ := LO.cells zTC (unhide HLO) hc
      rw [unhide hR] at e
      cases e
      obtain ⟨Z', ho⟩ := (unhide H).el k u c hu hc
      have hCE : CEo w c := LO.el (unhide HLO) k c hc
      obtain ⟨⟨fn, regs, bv⟩, X⟩ := c
      obtain ⟨xa, xc, ebv, hb1, hb2⟩ := hCE.row.shape
      dsimp only at ebv
      subst ebv
      unfold maxLen at hb2
      obtain ⟨NX, hNX⟩ : ∃ NX, Hid (X.length = NX) := ⟨_, hide rfl⟩
      have c2w : w.cell? ⟨lb, lo + k * 3 + 2, none⟩ = some (.slice xa X.length xc) := hcl 2 _ rfl
      have c2 : wr.cell? ⟨lb, lo + k * 3 + 2, none⟩ = some (.slice xa X.length xc) := ((unhide hG).bw.cell (p := ⟨lb, lo + k * 3 + 2, none⟩) hlb).trans c2w
      have hlb' : lb < wr.heap.size := Nat.lt_of_lt_of_le hlb (unhide hG).bw.size
      have HC1 := hide hc
      have HCE := hide hCE
      have HO := hide ho
      dsimp only at HO
      rw [unhide hNX] at hb1 c2w c2 HC1 HCE HO
      have HC2 := hide c2w
      have i0 : (0 : Int) ≤ (k : Int) := by omega
      have i1 : (k : Int) < (R : Int) := by omega
      obtain ⟨G0, hG0⟩ : ∃ G0 : Nat, Hid (G0 = gk) := ⟨_, rfl⟩
      obtain ⟨PO, hPO⟩ : ∃ PO, Hid (vC (cs.take k) = PO) := ⟨_, hide rfl⟩
      obtain ⟨PN, hPN⟩ : ∃ PN, Hid (nC (cs.take k) = PN) := ⟨_, hide rfl⟩
      rw [unhide hPO, unhide hPN] at hG
      have HPO : Hid (vC (cs.take (k + 1)) = PO ++ vX X) := by
        rw [take_push hc, ← unhide hPO]
        simp [vC, Hid]
      have HPN : Hid (nC (cs.take (k + 1)) = PN ++ nX X) := by
        rw [take_push hc, ← unhide hPN]
        simp [nC, Hid]
      have HVL : Hid (PO.length + (vX X).length ≤ 3000000) := by
        have h1 := unhide HPO
        have h2 : (vC (cs.take (k + 1))).length ≤ (vC cs).length := fl_le _ cs (k + 1)
        have h3 := unhide HV0
        rw [h1, List.length_append] at h2
        exact Nat.le_trans h2 h3
      have HNL : Hid (PN.length + (nX X).length ≤ 3000000) := by
        have h1 := unhide HPN
        have h2 : (nC (cs.take (k + 1))).length ≤ (nC cs).length := fl_le _ cs (k + 1)
        have h3 := unhide HN0
        rw [h1, List.length_append] at h2
        exact Nat.le_trans h2 h3
      have HG0 : Hid (GL w (PO ++ vX (X.take 0)) (PN ++ nX (X.take 0)) gO gN wr) := by simpa [vX, nX] using hG
      clear hcl hCE ho hc c2w hg
      go_wp2_with fail
      clear c2 hlb'
      go_loopg [3, 4, 6] NX (fun g t3 t4 t6 wr => ∃ (b : Nat) (gO gN : Value), Hid (b + g = NX) ∧ t3 = gO ∧ t4 = gN ∧ t6 = .int .i64 (b : Int) ∧ Hid (GL w (PO ++ vX (X.take b)) (PN ++ nX (X.take b)) gO gN wr))
      case atStart => exact ⟨0, _, _, by unfold Hid; omega, rfl, rfl, rfl, HG0⟩
      case round =>
        clear HG0 hG
        obtain ⟨b, gO, gN, hb, h3, h4, rfl, hG⟩ := hrel
        replace h3 := h3.symm
        replace h4 := h4.symm
        subst h3 h4
        have c2 := ((unhide hG).bw.cell (p := ⟨lb, lo + k * 3 + 2, none⟩) hlb).trans (unhide HC2)
        have hlb' : lb < wr.heap.size := Nat.lt_of_lt_of_le hlb (unhide hG).bw.size
        by_cases hlt2 : b < NX
        · obtain ⟨x, hx⟩ : ∃ x, X[b]? = some x := ⟨_, List.getElem?_eq_getElem (by rw [unhide hNX]; exact hlt2)⟩
          obtain ⟨ub, hub⟩ : ∃ ub, u[b]? = some ub := ⟨_, List.getElem?_eq_getElem (by have := (unhide HO).len; have := unhide hNX; omega)⟩
          obtain ⟨gb, ob, cb, e, _, _, hgb, hbl, _⟩ := LO.cells zTB (unhide HCE) hx
          have e5 : Value.slice xa NX xc = .slice (some ⟨gb, ob, none⟩) X.length cb := e
          rw [unhide hNX] at e5
          cases e5
          have hP := (unhide HO).el b ub x hub hx
          have hBE : BEo w x := LO.el (unhide HCE) b x hx
          obtain ⟨⟨pc, iv, nv⟩, ts⟩ := x
          obtain ⟨ya, yc, eiv, hi1, hi2⟩ := hBE.row.shape
          obtain ⟨za, zc, env, hz1, hz2⟩ := hP.nx.shape
          dsimp only at eiv env
          subst eiv env
          unfold maxLen at hi2 hz2
          obtain ⟨NT, hNT⟩ : ∃ NT, Hid (ts.length = NT) := ⟨_, hide rfl⟩
          obtain ⟨NZ, hNZ⟩ : ∃ NZ, Hid (ub.nx.length = NZ) := ⟨_, hide rfl⟩
          have b1w : w.cell? ⟨gb, ob + b * 3 + 1, none⟩ = some (.slice ya ts.length yc) := hbl 1 _ rfl
          have b2w : w.cell? ⟨gb, ob + b * 3 + 2, none⟩ = some (.slice za ub.nx.length zc) := hbl 2 _ rfl
          have b1 := ((unhide hG).bw.cell (p := ⟨gb, ob + b * 3 + 1, none⟩) hgb).trans b1w
          have b2 := ((unhide hG).bw.cell (p := ⟨gb, ob + b * 3 + 2, none⟩) hgb).trans b2w
          have hgb' : gb < wr.heap.size := Nat.lt_of_lt_of_le hgb (unhide hG).bw.size
          have HX1 := hide hx
          have HOW := hide hP.ow
          have HBE := hide hBE
          dsimp only at HOW
          rw [unhide hNT] at hi1 b1w b1 HX1 HOW HBE
          rw [unhide hNZ] at b2 hz1 HX1 HBE
          have HB1 := hide b1w
          have HVT : Hid (vX (X.take (b + 1)) = vX (X.take b) ++ vT ts) := by
            rw [take_push hx]
            simp [vX, Hid]
          have HNT1 : Hid (nX (X.take (b + 1)) = nX (X.take b) ++ [.slice za NZ zc]) := by
            rw [take_push hx, ← unhide hNZ]
            simp [nX, Hid]
          have HVL2 : Hid ((PO ++ vX (X.take b)).length + (vT ts).length ≤ 3000000) := by
            have h1 := unhide HVT
            have h2 : (vX (X.take (b + 1))).length ≤ (vX X).length := fl_le _ X (b + 1)
            have h3 := unhide HVL
            rw [h1, List.length_append] at h2
            rw [List.length_append]
            unfold Hid
            omega
          have HRV : Hid (Ro (wr.alloc (.cells #[.slice za NZ zc] 37)) 1 gN (PN ++ nX (X.take b)).length (flt enV (PN ++ nX (X.take b)))) := Ro.fr (S := fun _ => False) (unhide hG).n ((Fr.refl _ wr).alloc _) (fun _ _ e => e)
          have HNC := hide (new_cells wr #[.slice za NZ zc] 37)
          have HLN : Hid ((PN ++ nX (X.take b)).length ≤ 1099511627776) := by
            have h2 : (nX (X.take b)).length ≤ (nX X).length := by simp only [nX, List.length_map, List.length_take]; omega
            have h3 := unhide HNL
            rw [List.length_append]
            unfold Hid
            omega
          obtain ⟨na, nac, egN, hgn1, hgn2⟩ := (unhide hG).n.shape
          obtain ⟨oa, oac, egO, hgo1, hgo2⟩ := (unhide hG).o.shape
          have i0' : (0 : Int) ≤ (b : Int) := by omega
          have i1' : (b : Int) < (NX : Int) := by omega
          obtain ⟨G2, hG2⟩ : ∃ G2 : Nat, Hid (G2 = gk) := ⟨_, rfl⟩
          clear hbl hP hBE hx b1w b2w e egN egO hgn1 hgn2 hgo1 hgo2
          go_wp2_with (first | (at_builtin; refine appV (te := 37) Try.underlying30 infR23 rfl _ _ rfl _ (PN ++ nX (X.take b)) rfl (unhide HRV) ⟨wr.heap.size, 0, none⟩ 1 (.slice za NZ zc) rfl (unhide HNC) rfl (unhide HLN) ?_))
          intro gv w2 hr hg2 hat
          have HG1 := hide ((unhide hG).pushN (box1n wr _) hr (by simp) hg2 (by simpa using hat))
          have c2 := ((unhide HG1).bw.cell (p := ⟨lb, lo + k * 3 + 2, none⟩) hlb).trans (unhide HC2)
          have hlb' : lb < w2.heap.size := Nat.lt_of_lt_of_le hlb (unhide HG1).bw.size
          have b1 := ((unhide HG1).bw.cell (p := ⟨gb, ob + b * 3 + 1, none⟩) hgb).trans (unhide HB1)
          have hgb' : gb < w2.heap.size := Nat.lt_of_lt_of_le hgb (unhide HG1).bw.size
          obtain ⟨QO, hQO⟩ : ∃ QO, Hid (PO ++ vX (X.take b) = QO) := ⟨_, hide rfl⟩
          obtain ⟨QN, hQN⟩ : ∃ QN, Hid (PN ++ nX (X.take b) ++ [.slice za NZ zc] = QN) := ⟨_, hide rfl⟩
          rw [unhide hQO, unhide hQN] at HG1
          rw [unhide hQO] at HVL2
          clear hr hg2 hat HRV HNC HLN b2 hG
          go_wp2_with fail
          clear c2 hlb' b1 hgb'
          have HGI0 : Hid (GL w (QO ++ vT (ts.take 0)) QN gO gv w2) := by simpa [vT] using HG1
          go_loopg [3, 7] NT (fun g t3 t7 wr => ∃ (i : Nat) (gO : Value), Hid (i + g = NT) ∧ t3 = gO ∧ t7 = .int .i64 (i : Int) ∧ Hid (GL w (QO ++ vT (ts.take i)) QN gO gv wr))
          case atStart => exact ⟨0, _, by unfold Hid; omega, rfl, rfl, HGI0⟩
          case round =>
            clear HGI0 HG1
            obtain ⟨i, gO, hi, h3, rfl, hG⟩ := hrel
            replace h3 := h3.symm
            subst h3
            have c2 := ((unhide hG).bw.cell (p := ⟨lb, lo + k * 3 + 2, none⟩) hlb).trans (unhide HC2)
            have hlb' : lb < wr.heap.size := Nat.lt_of_lt_of_le hlb (unhide hG).bw.size
            have b1 := ((unhide hG).bw.cell (p := ⟨gb, ob + b * 3 + 1, none⟩) hgb).trans (unhide HB1)
            have hgb' : gb < wr.heap.size := Nat.lt_of_lt_of_le hgb (unhide hG).bw.size
            by_cases hlt3 : i < NT
            · obtain ⟨t, ht⟩ : ∃ t, ts[i]? = some t := ⟨_, List.getElem?_eq_getElem (by rw [unhide hNT]; exact hlt3)⟩
              obtain ⟨ui, hui⟩ : ∃ ui, ub.ins[i]? = some ui := ⟨_, List.getElem?_eq_getElem (by have := (unhide HOW).len; have := unhide hNT; omega)⟩
              obtain ⟨g8, o8, c8, e, _, _, hg8, hc8, _⟩ := LO.cells zT (unhide HBE) ht
              have e5 : Value.slice ya NT yc = .slice (some ⟨g8, o8, none⟩) ts.length c8 := e
              rw [unhide hNT] at e5
              cases e5
              have hI := (unhide HOW).el i ui t hui ht
              have hIE : IEo w t := LO.el (unhide HBE) i t ht
              obtain ⟨⟨rop, rcode, rdst, av, rn, rpc, rneed, ev⟩, rs⟩ := t
              obtain ⟨qa, qc, eev, he1, he2⟩ := hIE.row.shape
              obtain ⟨aa, ac, eav, ha1, ha2⟩ := hI.a.shape
              dsimp only at eev eav
              subst eev eav
              unfold maxLen at he2 ha2
              obtain ⟨NS, hNS⟩ : ∃ NS, Hid (rs.length = NS) := ⟨_, hide rfl⟩
              obtain ⟨NA, hNA⟩ : ∃ NA, Hid (ui.args.length = NA) := ⟨_, hide rfl⟩
              have k0 := ((unhide hG).bw.cell (p := ⟨g8, o8 + i * 8, none⟩) hg8).trans (hc8 0 _ rfl)
              have k1 := ((unhide hG).bw.cell (p := ⟨g8, o8 + i * 8 + 1, none⟩) hg8).trans (hc8 1 _ rfl)
              have k2 := ((unhide hG).bw.cell (p := ⟨g8, o8 + i * 8 + 2, none⟩) hg8).trans (hc8 2 _ rfl)
              have k3 := ((unhide hG).bw.cell (p := ⟨g8, o8 + i * 8 + 3, none⟩) hg8).trans (hc8 3 _ rfl)
              have k4 := ((unhide hG).bw.cell (p := ⟨g8, o8 + i * 8 + 4, none⟩) hg8).trans (hc8 4 _ rfl)
              have k5 := ((unhide hG).bw.cell (p := ⟨g8, o8 + i * 8 + 5, none⟩) hg8).trans (hc8 5 _ rfl)
              have k6 := ((unhide hG).bw.cell (p := ⟨g8, o8 + i * 8 + 6, none⟩) hg8).trans (hc8 6 _ rfl)
              have k7 := ((unhide hG).bw.cell (p := ⟨g8, o8 + i * 8 + 7, none⟩) hg8).trans (hc8 7 _ rfl)
              have hg8' : g8 < wr.heap.size := Nat.lt_of_lt_of_le hg8 (unhide hG).bw.size
              dsimp only at k0 k1 k2 k3 k4 k5 k6 k7
              have HTI : Hid (vT (ts.take (i + 1)) = vT (ts.take i) ++ (.slice aa ui.args.length ac :: rs.map ShR.v)) := by
                rw [take_push ht]
                simp [vT, vI, Hid]
              have HVL3 : Hid ((QO ++ vT (ts.take i)).length + (1 + rs.length) ≤ 3000000) := by
                have h1 := unhide HTI
                have h2 : (vT (ts.take (i + 1))).length ≤ (vT ts).length := fl_le _ ts (i + 1)
                have h3 := unhide HVL2
                rw [h1, List.length_append, List.length_cons, List.length_map] at h2
                rw [List.length_append]
                unfold Hid
                omega
              have HIE := hide hIE
              have HI := hide hI
              obtain ⟨Wx, hWx⟩ : ∃ Wx, Hid (wr.alloc (.cells #[.int .i64 rop, .int .i64 rcode, .int .i64 rdst, .slice aa ui.args.length ac, .int .i64 rn, .int .i64 rpc, .int .i64 rneed, .slice qa rs.length qc] 43) = Wx) := ⟨_, hide rfl⟩
              have hbx : Below wr.heap.size wr Wx := by rw [← unhide hWx]; exact box1n wr _
              have hxx : Wx.heap[wr.heap.size]? = some (.cells #[.int .i64 rop, .int .i64 rcode, .int .i64 rdst, .slice aa ui.args.length ac, .int .i64 rn, .int .i64 rpc, .int .i64 rneed, .slice qa rs.length qc] 43) := by rw [← unhide hWx]; exact heap_alloc_new wr _
              have HX8 := hide hxx
              have HGx := hide ((unhide hG).on hbx)
              rw [unhide hNS] at he1 k7 HIE hWx HX8 HVL3
              rw [unhide hNA] at ha1 k3 HTI hWx HX8 HIE
              have hWx' := unhide hWx
              obtain ⟨x1, x2, x3⟩ := blk_cells (unhide HX8)
              have y3 := x1 3
              simp at y3
              have HRV : Hid (Ro (Wx.alloc (.cells #[.slice aa NA ac] 40)) 1 gO (QO ++ vT (ts.take i)).length (flt enV (QO ++ vT (ts.take i)))) := Ro.fr (S := fun _ => False) (unhide HGx).o ((Fr.refl _ Wx).alloc _) (fun _ _ e => e)
              have HNC := hide (new_cells Wx #[.slice aa NA ac] 40)
              have HLN : Hid ((QO ++ vT (ts.take i)).length ≤ 1099511627776) := by have := unhide HVL3; unfold Hid; omega
              have HXS : Hid (wr.heap.size < Wx.heap.size) := x3
              have l0 : (0 : Int) ≤ (i : Int) := by omega
              have l1 : (i : Int) < (NT : Int) := by omega
              obtain ⟨G3, hG3⟩ : ∃ G3 : Nat, Hid (G3 = gk) := ⟨_, rfl⟩
              clear hc8 hI hIE ht e hbx hxx x1 x2
              go_wp2_with (first | (at_builtin; refine appV (te := 40) Try.underlying28 infR42 rfl _ _ rfl _ (QO ++ vT (ts.take i)) rfl (unhide HRV) ⟨Wx.heap.size, 0, none⟩ 1 (.slice aa NA ac) rfl (unhide HNC) rfl (unhide HLN) ?_))
              intro gv2 w3 hr hg2 hat
              have HG2 := hide ((unhide HGx).pushO (box1n Wx _) hr (by simp) hg2 (by simpa using hat))
              have hgo : ∀ q, gO.ownBlock = some q → q < wr.heap.size := fun q hq => (unhide hG).o.lt q hq
              have hx4 : w3.heap[wr.heap.size]? = some (.cells #[.int .i64 rop, .int .i64 rcode, .int .i64 rdst, .slice aa NA ac, .int .i64 rn, .int .i64 rpc, .int .i64 rneed, .slice qa NS qc] 43) := by
                have f : Fr (fun q => gO.ownBlock = some q) Wx w3 := (Fr.of_below (S := fun q => gO.ownBlock = some q) (box1n Wx (.cells #[.slice aa NA ac] 40))).trans ((Fr.refl _ _).grown hg2 (fun k e => .inr e))
                exact (f.block _ (unhide HXS) (fun e => by have := hgo _ e; omega)).trans (unhide HX8)
              have HBX := hide hx4
              obtain ⟨RV, hRV⟩ : ∃ RV, Hid (rs.map ShR.v = RV) := ⟨_, hide rfl⟩
              obtain ⟨UO, hUO⟩ : ∃ UO, Hid (QO ++ vT (ts.take i) ++ [.slice aa NA ac] = UO) := ⟨_, hide rfl⟩
              rw [unhide hUO] at HG2
              have hgn : gv2.ownBlock ≠ some wr.heap.size := fun e => by
                rcases hat with q | q
                · rw [q] at e; have := hgo _ e; omega
                · rw [q] at e
                  simp at e
                  have := unhide HXS
                  omega
              have HGS0 : Hid (GL w (UO ++ RV.take 0) QN gv2 gv w3 ∧ w3.heap[wr.heap.size]? = some (.cells #[.int .i64 rop, .int .i64 rcode, .int .i64 rdst, .slice aa NA ac, .int .i64 rn, .int .i64 rpc, .int .i64 rneed, .slice qa NS qc] 43) ∧ gv2.ownBlock ≠ some wr.heap.size) := ⟨by simpa using unhide HG2, hx4, hgn⟩
              have HWS : Hid (w.heap.size ≤ wr.heap.size) := (unhide hG).bw.size
              obtain ⟨Wi, rfl⟩ : ∃ Wi, Wi = wr := ⟨_, rfl⟩
              clear hr hg2 hat HRV HNC HLN hgo hgn hx4 y3 k0 k1 k2 k3 k4 k5 k6 k7 hg8' hWx' c2 hlb' b1 hgb' x3 HX8 HG2 HBX hG
              go_wp2_with fail
              go_loopg [3, 9] NS (fun g t3 t9 wr => ∃ (s : Nat) (gO : Value), Hid (s + g = NS) ∧ t3 = gO ∧ t9 = .int .i64 (s : Int) ∧ Hid (GL w (UO ++ RV.take s) QN gO gv wr ∧ wr.heap[Wi.heap.size]? = some (.cells #[.int .i64 rop, .int .i64 rcode, .int .i64 rdst, .slice aa NA ac, .int .i64 rn, .int .i64 rpc, .int .i64 rneed, .slice qa NS qc] 43) ∧ gO.ownBlock ≠ some Wi.heap.size))
              case atStart => exact ⟨0, _, by unfold Hid; omega, rfl, rfl, HGS0⟩
              case round =>
                clear HGS0
                obtain ⟨s, gO, hs, h3, rfl, hGB⟩ := hrel
                replace h3 := h3.symm
                subst h3
                have HG := hide (unhide hGB).1
                obtain ⟨x1, x2, x3⟩ := blk_cells (unhide hGB).2.1
                have y7 := x1 7
                simp at y7
                by_cases hlt4 : s < NS
                · obtain ⟨r, hr⟩ : ∃ r, rs[s]? = some r := ⟨_, List.getElem?_eq_getElem (by rw [unhide hNS]; exact hlt4)⟩
                  obtain ⟨ge, oe, ce, e, _, _, hge, hce, _⟩ := LO.cells zSh (unhide HIE) hr
                  have e5 : Value.slice qa NS qc = .slice (some ⟨ge, oe, none⟩) rs.length ce := e
                  rw [unhide hNS] at e5
                  cases e5
                  obtain ⟨ra, rn', rc', erv⟩ := LO.el (unhide HIE) s _ hr
                  obtain ⟨rf, rp, rv⟩ := r
                  have erv' : rv = .slice ra rn' rc' := erv
                  subst erv'
                  have e2 := ((unhide HG).bw.cell (p := ⟨ge, oe + s * 3 + 2, none⟩) hge).trans (hce 2 _ rfl)
                  have e2' : wr.cell? ⟨ge, oe + s * 3 + 2, none⟩ = some (.slice ra rn' rc') := e2
                  have hge' : ge < wr.heap.size := Nat.lt_of_lt_of_le hge (unhide HG).bw.size
                  have HTS : Hid (RV.take (s + 1) = RV.take s ++ [.slice ra rn' rc']) := by
                    exact take_push (by rw [← unhide hRV, List.getElem?_map, hr]; rfl)
                  have HRV : Hid (Ro (wr.alloc (.cells #[.slice ra rn' rc'] 40)) 1 gO (UO ++ RV.take s).length (flt enV (UO ++ RV.take s))) := Ro.fr (S := fun _ => False) (unhide HG).o ((Fr.refl _ wr).alloc _) (fun _ _ e => e)
                  have HNC := hide (new_cells wr #[.slice ra rn' rc'] 40)
                  have HLN : Hid ((UO ++ RV.take s).length ≤ 1099511627776) := by
                    have h1 := unhide HVL3
                    have h2 : UO.length = (QO ++ vT (ts.take i)).length + 1 := by rw [← unhide hUO, List.length_append]; rfl
                    rw [List.length_append, List.length_take]
                    unfold Hid
                    have h5 : RV.length = rs.length := by rw [← unhide hRV, List.length_map]
                    have h6 := unhide hNS
                    omega
                  have s0 : (0 : Int) ≤ (s : Int) := by omega
                  have s1 : (s : Int) < (NS : Int) := by omega
                  clear hce hr e e2 erv x1 x2
                  go_wp2_with (first | (at_builtin; refine appV (te := 40) Try.underlying28 infR42 rfl _ _ rfl _ (UO ++ RV.take s) rfl (unhide HRV) ⟨wr.heap.size, 0, none⟩ 1 (.slice ra rn' rc') rfl (unhide HNC) rfl (unhide HLN) ?_))
                  intro gv3 w4 hr hg2 hat
                  have HG2 : Hid (GL w (UO ++ RV.take (s + 1)) QN gv3 gv w4) := by
                    rw [unhide HTS, ← List.append_assoc]
                    exact (unhide HG).pushO (box1n wr _) hr (by simp) hg2 (by simpa using hat)
                  have hb3 : w4.heap[Wi.heap.size]? = some (.cells #[.int .i64 rop, .int .i64 rcode, .int .i64 rdst, .slice aa NA ac, .int .i64 rn, .int .i64 rpc, .int .i64 rneed, .slice (some ⟨ge, oe, none⟩) NS qc] 43) := by
                    have f : Fr (fun q => gO.ownBlock = some q) wr w4 := (Fr.of_below (S := fun q => gO.ownBlock = some q) (box1n wr (.cells #[.slice ra rn' rc'] 40))).trans ((Fr.refl _ _).grown hg2 (fun k e => .inr e))
                    exact (f.block _ x3 (unhide hGB).2.2).trans (unhide hGB).2.1
                  have hgn : gv3.ownBlock ≠ some Wi.heap.size := fun e => by
                    rcases hat with q | q
                    · rw [q] at e; exact (unhide hGB).2.2 e
                    · rw [q] at e
                      simp at e
                      omega
                  have HN := hide (And.intro (unhide HG2) (And.intro hb3 hgn))
                  clear hr hg2 hat HRV HNC HLN hb3 hgn HG2
                  go_wp2_with fail
                  go_roundg (gk - 1)
                  case measure => have := unhide hs; omega
                  case rel => exact ⟨s + 1, _, by have := unhide hs; unfold Hid; omega, rfl, by go_num, HN⟩
                · have hsN : s = NS := by have := unhide hs; omega
                  subst hsN
                  have HN : Hid (GL w (QO ++ vT (ts.take (i + 1))) QN gO gv wr) := by
                    have q := unhide HG
                    rw [List.take_of_length_le (by rw [← unhide hRV, List.length_map, unhide hNS]; exact Nat.le_refl _), ← unhide hUO, ← unhide hRV] at q
                    rw [unhide HTI, ← List.append_assoc]
                    exact hide (by simpa using q)
                  have c2 := ((unhide HG).bw.cell (p := ⟨lb, lo + k * 3 + 2, none⟩) hlb).trans (unhide HC2)
                  have hlb' : lb < wr.heap.size := Nat.lt_of_lt_of_le hlb (unhide HG).bw.size
                  have b1 := ((unhide HG).bw.cell (p := ⟨gb, ob + b * 3 + 1, none⟩) hgb).trans (unhide HB1)
                  have hgb' : gb < wr.heap.size := Nat.lt_of_lt_of_le hgb (unhide HG).bw.size
                  clear x1 x2
                  go_wp2_with fail
                  go_roundg (G3 - 1)
                  case measure => have h1 := unhide hG3; have h2 := unhide hi; omega
                  case rel => exact ⟨i + 1, _, by have h1 := unhide hG3; have h2 := unhide hi; unfold Hid; omega, rfl, by go_num, HN⟩
            · have hiN : i = NT := by have := unhide hi; omega
              subst hiN
              have HN : Hid (GL w (PO ++ vX (X.take (b + 1))) (PN ++ nX (X.take (b + 1))) gO gv wr) := by
                have q := unhide hG
                rw [← unhide hNT, List.take_length, ← unhide hQO, ← unhide hQN] at q
                rw [unhide HVT, unhide HNT1, ← List.append_assoc, ← List.append_assoc]
                exact q
              go_wp2_with fail
              go_roundg (G2 - 1)
              case measure => have h1 := unhide hG2; have h2 := unhide hb; omega
              case rel => exact ⟨b + 1, _, _, by have h1 := unhide hG2; have h2 := unhide hb; unfold Hid; omega, rfl, rfl, by go_num, HN⟩
        · have hbN : b = NX := by have := unhide hb; omega
          subst hbN
          have HN : Hid (GL w (vC (cs.take (k + 1))) (nC (cs.take (k + 1))) gO gN wr) := by
            have q := unhide hG
            rw [← unhide hNX, List.take_length] at q
            rw [unhide HPO, unhide HPN]
            exact q
          go_wp2_with fail
          go_roundg (G0 - 1)
          case measure => have h1 := unhide hG0; have h2 := unhide hk; omega
          case rel => exact ⟨k + 1, _, _, by have h1 := unhide hG0; have h2 := unhide hk; unfold Hid; omega, rfl, rfl, by go_num, HN⟩
    · have hkR : k = R := by have := unhide hk; omega
      subst hkR
      have hP := hide (unhide hG)
      rw [← unhide hR, List.take_length] at hP
      have hB := (unhide hP).bw
      have HB := hide hB
      have HC30 := hide (apO_all (unhide hP).o (fun a ha => by
        obtain ⟨l, hl, hl2⟩ := vC_ro (unhide H) (unhide HK) ha
        exact ⟨l, hl, hl2.fr (Fr.of_below (S := fun _ => False) (hB.mono (Nat.le_refl _))) (fun _ _ e => e)⟩) (vC_pw (unhide H)) (fun a ha q hq e => by
        have h1 := (vC_in (unhide H) ha hq).1
        have h2 := (unhide hP).ob q e
        omega) (unhide HV0))
      clear hB hG
      go_wp2_with fail
      refine (unhide HC30).mono ?_
      rintro e w1 ⟨rfl, f1⟩
      have HF1 := hide f1
      have hvl : ∀ q, (∃ a ∈ vC cs, a.ownBlock = some q) → q < w.heap.size := fun q ⟨a, ha, hq⟩ => (vC_in (unhide H) ha hq).1
      have HVL := hide hvl
      have HC31 := hide (apI_all ((unhide hP).n.fr f1 (fun q hq e => by have h1 := hvl q e; have h2 := (unhide hP).nb q hq; omega)) (fun a ha => by
        obtain ⟨l, hl, hl2⟩ := nC_ro (unhide H) (unhide HK) ha
        exact ⟨l, hl, (hl2.fr (Fr.of_below (S := fun _ => False) ((unhide HB).mono (Nat.le_refl _))) (fun _ _ e => e)).fr f1 (fun q hq e => by
          obtain ⟨b, hb, hbq⟩ := e
          exact vn_ap (unhide H) hb ha q hbq hq)⟩) (nC_pw (unhide H)) (fun a ha q hq e => by
        have h1 := (nC_in (unhide H) ha hq).1
        have h2 := (unhide hP).nb q e
        omega) (unhide HN0))
      clear f1 HC30 hvl
      go_wp2_with fail
      refine (unhide HC31).mono ?_
      rintro e w2 ⟨rfl, f2⟩
      have hF : Fr (fun q => (∃ a ∈ vC cs, a.ownBlock = some q) ∨ ∃ a ∈ nC cs, a.ownBlock = some q) w w2 := ((Fr.of_below (S := fun q => (∃ a ∈ vC cs, a.ownBlock = some q) ∨ ∃ a ∈ nC cs, a.ownBlock = some q) (unhide HB)).trans ((unhide HF1).mono (fun q _ e => .inl e))).trans (f2.mono (fun q _ e => .inr e))
      have hL2 : LOC w2 (.slice (some ⟨lb, lo, none⟩) k lc) cs := LO.fr stayCE (unhide HLO) hF (fun q hq e => by
        rcases e with ⟨a, ha, hqa⟩ | ⟨a, ha, hqa⟩
        · rcases hq with hq | ⟨c, hc, hq⟩
          · exact (vC_in (unhide H) ha hqa).2.1 hq
          · exact vC_nG (unhide H) ha hqa hc hq
        · rcases hq with hq | ⟨c, hc, hq⟩
          · exact (nC_in (unhide H) ha hqa).2.1 hq
          · exact nC_nG (unhide H) ha hqa hc hq)
      obtain ⟨q1, q2, q3⟩ := vC_len cs
      have h3 := unhide HV0
      have h4 := unhide HN0
      have HC32 : Hid (Calls Try.prog 29 #[.slice (some ⟨lb, lo, none⟩) k lc] w2 fun e w' => e = .returned (.bool true) ∧ Fr (fun q => lb = q ∨ ∃ x ∈ cs, blG x q) w2 w') := by
        have hRk := unhide hR
        rw [← hRk] at hL2 ⊢
        refine apartLists_any hL2 (fun W m hW => ?_)
        have hl : (cs.mapIdx (mkC m)).length = cs.length := List.length_mapIdx
        rw [← hl] at hW ⊢
        exact grown_any hW (by rw [hl]; omega) (by rw [mk_lenI]; omega) (by rw [mk_lenE]; omega) (mk_lenS m (fun c hc x hx t ht => by have := q3 c hc x hx t ht; omega))
      have HFF := hide (hF.mono (T := fun q => lb = q ∨ ∃ c ∈ cs, blCd c q) (fun q _ e => .inr (by
        rcases e with ⟨a, ha, hqa⟩ | ⟨a, ha, hqa⟩
        · obtain ⟨c, hc, ha2⟩ := List.mem_flatMap.1 ha
          exact ⟨c, hc, .inr (vX_bl ha2 hqa)⟩
        · obtain ⟨c, hc, ha2⟩ := List.mem_flatMap.1 ha
          exact ⟨c, hc, .inr (nX_bl ha2 hqa)⟩)))
      clear f2 HC31 hF hL2 q1 q2 q3 h3 h4
      go_wp2_with fail
      refine (unhide HC32).mono ?_
      rintro e w3 ⟨rfl, f3⟩
      have HF3 := hide ((unhide HFF).trans (f3.mono (fun q _ e => e.elim .inl (fun ⟨c, hc, e⟩ => .inr ⟨c, hc, blG_Cd e⟩))))
      clear f3 HC32
      go_wp2_with fail
      go_ret
      exact ⟨rfl, unhide HF3⟩
end Go.Proofs.Ytiamoinhmkhaoaa
