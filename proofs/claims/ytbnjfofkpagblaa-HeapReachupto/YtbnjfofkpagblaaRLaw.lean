/-
  HeapReach: the law.
-/
import Derived.Test.YtbnjfofkpagblaaRLp
import Derived.Test.YtbnjfofkpagblaaLAl
import Derived.Test.YtbnjfofkpagblaaVIn
namespace Go.Proofs.Ytbnjfofkpagblaa
open Go.RowKit
set_option linter.unusedVariables false
set_option linter.unusedSimpArgs false
set_option maxRecDepth 100000 in
set_option maxHeartbeats 6400000 in
theorem heapReachLaw {w : World} {v rv tv : Value} {vs ots : List (Int × Int)} (h : into.StaV w v) (hr : Rx w 2 rv vs.length (flt enI vs)) (ht : Rx w 2 tv ots.length (flt enI ots)) (hvN : vs.length ≤ 1048576) (htN : ots.length ≤ 1048576) :
    Calls Try.prog 4 #[v, rv, tv] w fun e w' => e = .returned (.bool true) ∧ Below w.heap.size w w' := by
  obtain ⟨bud, sp, lv, os, rfl, ho, hN, hS⟩ := h
  have HB : Hid (∀ O, Calls Try.prog 5 #[.agg #[.int .i64 bud, .int .i64 sp, lv]] (w.alloc O) (BoP (w.alloc O) bud sp os)) := fun O => both_any (ho.below (bl_box w O) (Nat.le_refl _)) hN hS bud sp
  have HBX := hide (bl_box w)
  have HNN := hide hN
  obtain ⟨a, cap, rfl, hlc, hcm⟩ := ho.shape
  obtain ⟨ra, rcap, rfl, hrl, hrm⟩ := hr.shape
  obtain ⟨ta, tcap, rfl, htl, htm⟩ := ht.shape
  obtain ⟨N, hNv⟩ : ∃ N, Hid (vs.length = N) := ⟨_, hide rfl⟩
  obtain ⟨M, hMv⟩ : ∃ M, Hid (ots.length = M) := ⟨_, hide rfl⟩
  have HR : Hid (Rx w 2 (.slice ra N rcap) vs.length (flt enI vs)) := by rw [← unhide hNv]; exact hide hr
  have HT : Hid (Rx w 2 (.slice ta M tcap) ots.length (flt enI ots)) := by rw [← unhide hMv]; exact hide ht
  rw [unhide hNv] at hvN hrl ⊢
  rw [unhide hMv] at htN htl ⊢
  unfold maxLen at hrm htm
  clear ho hS hr ht hlc hcm hN
  go_enter Try.func4, Try.ntmps4
  go_wp2_with fail
  refine (unhide HB _).mono ?_
  intro e w1 hbo
  have HB1 := hide (bl_past (unhide HBX _) hbo.1)
  clear HBX HB
  rcases hbo.2 with ⟨_, rfl⟩ | ⟨hl, h, ov, ds, r, rw0, xs, C, rfl, H, hag, R, -, -⟩
  · clear hbo
    go_wp2_with fail
    go_ret
    exact ⟨rfl, unhide HB1⟩
  · clear hbo
    have hSo := lRb_bounds hl
    have hSd : ∀ d ∈ ds, d.its.length ≤ 4096 ∧ d.keys.length ≤ 4096 := fun d hd => hSo d.ob (by rw [← hag]; exact List.mem_map_of_mem hd)
    obtain ⟨xa, xc, re, _⟩ := R.row.row.shape
    have HP8 : Hid (∀ (W : World) (x : Value) (us : List (Int × Int)) (K : Nat), Below w1.heap.size w1 W → Rx W 2 x us.length (flt enI us) → us.length ≤ 1048576 → (rch os us).length = K → Calls Try.prog 8 #[.pointer (some ⟨h, 0, none⟩), x] W fun e w' => ∃ a c, e = .returned (.slice a K c) ∧ Gx W 1 enN (rch os us) (.slice a K c) w') := hide (fun W x us K b hx hu hK => by
      subst hK
      refine (preach_any (H.below b) hag (unhide HNN) (fun d hd => by have := hSd d hd; omega) hx hu).mono ?_
      rintro e w' ⟨o, rfl, g⟩
      obtain ⟨a, c, rfl, _⟩ := g.1.shape
      exact ⟨a, c, rfl, g⟩)
    have HP6 : Hid (∀ (W : World) (x : Value) (us : List (Int × Int)) (K : Nat), Below w1.heap.size w1 W → Rx W 2 x us.length (flt enI us) → us.length ≤ 1048576 → (rch os us).length = K → Calls Try.prog 6 #[.slice xa os.length xc, x] W fun e w' => ∃ a c, e = .returned (.slice a K c) ∧ Gx W 1 enN (rch os us) (.slice a K c) w') := hide (fun W x us K b hx hu hK => by
      subst hK
      have hos := (R.below b).row.osv
      rw [re] at hos
      refine (rreach_any hos (unhide HNN) (fun o ho => by have := hSo o ho; omega) hx hu).mono ?_
      rintro e w' ⟨o, rfl, g⟩
      obtain ⟨a, c, rfl, _⟩ := g.1.shape
      exact ⟨a, c, rfl, g⟩)
    have HC2 : Hid (∀ W, Below w1.heap.size w1 W → W.cell? ⟨r, 2, none⟩ = some (.slice xa os.length xc) ∧ r < W.heap.size) := hide (fun W b => by
      obtain ⟨q, _, ql⟩ := blk_cells (R.below b).box
      refine ⟨(q 2).trans ?_, ql⟩
      rw [← re]
      rfl)
    have HAL : Hid (∀ W, Below w1.heap.size w1 W → Calls Try.prog 13 #[.pointer (some ⟨h, 0, none⟩), .pointer (some ⟨r, 0, none⟩)] W fun e w' => e = .returned (.bool true) ∧ Below W.heap.size W w') := hide (fun W b => alike_any (H.below b) (R.below b) hag (unhide HNN) hSd)
    have HSN : Hid (∀ (W : World) (x y : Value) (l : List Int) (K : Nat), l.length = K → Ro W 1 x K (flt enN l) → Ro W 1 y K (flt enN l) → K ≤ 1048576 → Calls Try.prog 9 #[x, y] W fun e w' => e = .returned (.bool true) ∧ Below W.heap.size W w') := hide (fun W x y l K hK hx hy hl => by
      subst hK
      have := smN_any (Rx.of_ro hx) (Rx.of_ro hy) (by omega)
      rw [Dc_true rfl] at this
      exact this)
    have HRW : Hid (∀ W, Below w1.heap.size w1 W → Rx W 2 (.slice ra N rcap) vs.length (flt enI vs)) := hide (fun W b => (unhide HR).below (bl_past (unhide HB1) b) (Nat.le_refl _))
    have HTW : Hid (∀ W, Below w1.heap.size w1 W → Rx W 2 (.slice ta M tcap) ots.length (flt enI ots)) := hide (fun W b => (unhide HT).below (bl_past (unhide HB1) b) (Nat.le_refl _))
    obtain ⟨K, hK⟩ : ∃ K, Hid ((rch os vs).length = K) := ⟨_, hide rfl⟩
    have hKN : K ≤ 1048576 := by have := rch_len os vs; have := unhide HNN; have := unhide hK; omega
    have HVN : Hid (vs.length ≤ 1048576) := by rw [unhide hNv]; exact hide hvN
    have HTs : Hid (∀ k, (Value.slice ta M tcap).ownBlock = some k → 0 < M → k < w.heap.size) := hide (fun k hk h0 => Rx.pos_lt (unhide HT) (by rw [unhide hMv]; exact h0) k hk)
    clear hSo hSd H R hag re hl HR HT
    obtain ⟨c2, cl⟩ := unhide HC2 w1 (Below.refl _ _)
    obtain ⟨L, hL⟩ : ∃ L, Hid (os.length = L) := ⟨_, hide rfl⟩
    rw [unhide hL] at c2 HP6 HC2
    go_wp2_with fail
    refine (unhide HP6 w1 _ vs K (Below.refl _ _) (unhide HRW _ (Below.refl _ _)) (unhide HVN) (unhide hK)).mono ?_
    rintro e w2 ⟨wa, wc, rfl, g2⟩
    have HB2 := hide g2.2.1
    have HWT : Hid (∀ W, Below w2.heap.size w2 W → Ro W 1 (.slice wa K wc) K (flt enN (rch os vs))) := hide (fun W b => by
      have := g2.1.fr (Fr.of_below (S := fun _ => False) b) (fun _ _ e => e)
      rw [unhide hK] at this
      exact this)
    clear g2 c2 cl
    go_wp2_with fail
    refine (lentV_any (unhide HRW _ (unhide HB2)) (by rw [unhide hNv]; omega)).mono ?_
    rintro e w3 ⟨lv3, rfl, g3⟩
    have HB3 := hide g3.2.1
    obtain ⟨g, off, lcap, rfl, hlc, hlm, hgl, -⟩ := g3.1.full (by rw [lmV_length]; omega)
    have hge : w2.heap.size ≤ g := g3.2.2 g rfl
    have HLN : Hid (Ro w3 2 (.slice (some ⟨g, off, none⟩) (N + 64) lcap) (vs ++ mkV 64).length (flt enI (vs ++ mkV 64))) := hide (by have := g3.1; rw [lmV_length, unhide hNv] at this ⊢; exact this)
    rw [lmV_length, unhide hNv] at hlc ⊢
    unfold maxLen at hlm
    have HIN : Hid (Ro w3 2 (.slice (some ⟨g, off, none⟩) N lcap) N (flt enI vs)) := hide (by
      have h1 : PR w3 vs (.slice (some ⟨g, off, none⟩) (N + 64) lcap) := by unfold PR; have := unhide HLN; rw [lmV_length] at this; exact this
      have := upto_room h1
      rw [unhide hNv] at this
      exact this)
    have hgeH := hide hge
    have hglH := hide hgl
    clear g3
    go_wp2_with fail
    have HINx : Hid (∀ W, Below w3.heap.size w3 W → Rx W 2 (.slice (some ⟨g, off, none⟩) N lcap) vs.length (flt enI vs)) := hide (fun W b => by rw [unhide hNv]; exact (Rx.of_ro (unhide HIN)).below b (Nat.le_refl _))
    have HB13 : Hid (Below w1.heap.size w1 w3) := hide (bl_past (unhide HB2) (unhide HB3))
    refine (unhide HP8 w3 _ vs K (unhide HB13) (unhide HINx _ (Below.refl _ _)) (unhide HVN) (unhide hK)).mono ?_
    rintro e w4 ⟨aa, ac, rfl, g4⟩
    have HB4 := hide g4.2.1
    have HA0 : Hid (Ro w4 1 (.slice aa K ac) K (flt enN (rch os vs)) ∧ ∀ k, (Value.slice aa K ac).ownBlock = some k → w3.heap.size ≤ k) := hide (by
      have := g4.1
      rw [unhide hK] at this
      exact ⟨this, g4.2.2⟩)
    clear g4
    go_wp2_with fail
    refine (unhide HP8 w4 _ vs K (bl_past (unhide HB13) (unhide HB4)) (unhide HINx _ (unhide HB4)) (unhide HVN) (unhide hK)).mono ?_
    rintro e w5 ⟨ba, bc, rfl, g5⟩
    have HB5 := hide g5.2.1
    have HBb : Hid (Ro w5 1 (.slice ba K bc) K (flt enN (rch os vs)) ∧ ∀ k, (Value.slice ba K bc).ownBlock = some k → w4.heap.size ≤ k) := hide (by
      have := g5.1
      rw [unhide hK] at this
      exact ⟨this, g5.2.2⟩)
    have HAa : Hid (Ro w5 1 (.slice aa K ac) K (flt enN (rch os vs))) := hide ((unhide HA0).1.fr (Fr.of_below (S := fun _ => False) (unhide HB5)) (fun _ _ e => e))
    have HB25 : Hid (Below w2.heap.size w2 w5) := hide (bl_past (bl_past (unhide HB3) (unhide HB4)) (unhide HB5))
    clear g5
    go_wp2_with fail
    refine (unhide HSN w5 _ _ _ K (unhide hK) (unhide HAa) (unhide HWT _ (unhide HB25)) hKN).mono ?_
    rintro e w6 ⟨rfl, b6⟩
    have HB6 := hide b6
    have HBb6 : Hid (Ro w6 1 (.slice ba K bc) K (flt enN (rch os vs))) := hide ((unhide HBb).1.fr (Fr.of_below (S := fun _ => False) (unhide HB6)) (fun _ _ e => e))
    clear b6
    go_wp2_with fail
    refine (unhide HSN w6 _ _ _ K (unhide hK) (unhide HBb6) (unhide HWT _ (bl_past (unhide HB25) (unhide HB6))) hKN).mono ?_
    rintro e w7 ⟨rfl, b7⟩
    have HB57 : Hid (Below w5.heap.size w5 w7) := hide (bl_past (unhide HB6) b7)
    clear b7
    have HB37 : Hid (Below w3.heap.size w3 w7) := hide (bl_past (bl_past (unhide HB4) (unhide HB5)) (unhide HB57))
    go_wp2_with fail
    refine (keptV_any (l := vs) ((Rx.of_ro (unhide HLN)).below (unhide HB37) (Nat.le_refl _)) (unhide HRW _ (bl_past (unhide HB13) (unhide HB37))) (by rw [unhide hNv]; omega)).mono ?_
    rintro e w8 ⟨rfl, b8⟩
    have HB58 : Hid (Below w5.heap.size w5 w8) := hide (bl_past (unhide HB57) b8)
    have HB38 : Hid (Below w3.heap.size w3 w8) := hide (bl_past (unhide HB37) b8)
    clear b8
    have HOV0 : Hid (OvS w8 (.slice (some ⟨g, off, none⟩) N lcap) vs ots 0 w8) := hide ⟨Fr.refl _ _, by rw [ovr_zero, unhide hNv]; exact (unhide HIN).fr (Fr.of_below (S := fun _ => False) (unhide HB38)) (fun _ _ e => e)⟩
    clear HINx HLN HIN HB57 HB37 HBb6 HB6
    go_wp2_with fail
    go_loopg [15] N (fun gg t15 wr => ∃ (i : Nat), Hid (i + gg = N) ∧ t15 = .int .i64 (i : Int) ∧ Hid (OvS w8 (.slice (some ⟨g, off, none⟩) N lcap) vs ots i wr))
    case atStart => exact ⟨0, by unfold Hid; omega, rfl, HOV0⟩
    case round =>
      obtain ⟨i, hi, rfl, hO⟩ := hrel
      have HB1r : Hid (Below w2.heap.size w2 wr) := hide (bl_past (unhide HB3) (unhide HB38) |>.trans ((unhide hO).f.below (bl_past (unhide HB3) (unhide HB38)).size (fun k hk e => by have e2 : g = k := Option.some.inj e; have := unhide hgeH; omega)))
      by_cases hlt : i < N
      · have HOL : (ovr vs ots i).length = N := by rw [ovr_length]; exact unhide hNv
        obtain ⟨q, hq⟩ : ∃ q, (ovr vs ots i)[i]? = some q := ⟨_, List.getElem?_eq_getElem (by rw [HOL]; exact hlt)⟩
        have hrow := (unhide hO).row
        have hrx : Rx wr 2 (.slice (some ⟨g, off, none⟩) N lcap) (ovr vs ots i).length (flt enI (ovr vs ots i)) := by rw [ovr_length]; exact Rx.of_ro hrow
        obtain ⟨b', o', _, e1, _, _, hgr, hcc⟩ := hrx.elem zI hq
        obtain ⟨rfl, rfl⟩ := slice_inj e1
        have z0 : wr.cell? ⟨g, off + i * 2, none⟩ = some (.int .i64 q.1) := by have := hcc 0 _ rfl; simpa using this
        have z1 : wr.cell? ⟨g, off + i * 2 + 1, none⟩ = some (.int .i64 q.2) := hcc 1 _ rfl
        have zf : ∀ k, wr.frozen? ⟨g, k, none⟩ = false := by
          rw [unhide hNv] at hrow
          exact hrow.free rfl
        have i0 : (0 : Int) ≤ (i : Int) := by omega
        have i1 : (i : Int) < (N : Int) := by omega
        have hiv : i < vs.length := by rw [unhide hNv]; exact hlt
        have eiv : (Value.slice (some ⟨g, off, none⟩) N lcap) = .slice (some ⟨g, off, none⟩) vs.length lcap := by rw [unhide hNv]
        by_cases hm : i < M
        · obtain ⟨p, hp⟩ : ∃ p, ots[i]? = some p := ⟨_, List.getElem?_eq_getElem (by rw [unhide hMv]; exact hm)⟩
          obtain ⟨tb, to, tc', e2, _, _, htb, tcc⟩ := (unhide HTW wr (bl_past (unhide HB2) (unhide HB1r))).elem zI hp
          obtain ⟨rfl, rfl⟩ : ta = some ⟨tb, to, none⟩ ∧ tcap = tc' := by injection e2 with q1 q2 q3; exact ⟨q1, q3⟩
          have htb0 := unhide HTs tb rfl (by omega)
          have hne : g ≠ tb := by have := unhide hgeH; have := (unhide HB2).size; have := (unhide HB1).size; omega
          have t0 : wr.cell? ⟨tb, to + i * 2, none⟩ = some (.int .i64 p.1) := by have := tcc 0 _ rfl; simpa using this
          have t1 : wr.cell? ⟨tb, to + i * 2 + 1, none⟩ = some (.int .i64 p.2) := tcc 1 _ rfl
          have x0 : ((wr.setCell ⟨g, off + i * 2, none⟩ (.int .i64 0)).setCell ⟨g, off + i * 2 + 1, none⟩ (.int .i64 0)).cell? ⟨tb, to + i * 2, none⟩ = some (.int .i64 p.1) := by
            rw [World.cell?_setCell_other _ _ _ _ (fun e => hne (congrArg Addr.block e)), World.cell?_setCell_other _ _ _ _ (fun e => hne (congrArg Addr.block e))]; exact t0
          have x1 : ((wr.setCell ⟨g, off + i * 2, none⟩ (.int .i64 0)).setCell ⟨g, off + i * 2 + 1, none⟩ (.int .i64 0)).cell? ⟨tb, to + i * 2 + 1, none⟩ = some (.int .i64 p.2) := by
            rw [World.cell?_setCell_other _ _ _ _ (fun e => hne (congrArg Addr.block e)), World.cell?_setCell_other _ _ _ _ (fun e => hne (congrArg Addr.block e))]; exact t1
          have HO2 : Hid (OvS w8 (.slice (some ⟨g, off, none⟩) N lcap) vs ots (i + 1) ((wr.setCells g (off + i * 2) (enI (0, 0))).setCells g (off + i * 2) (enI p))) := hide ((unhide hO).step2 hiv eiv hp)
          have m1 : (i : Int) < (M : Int) := by omega
          clear hcc hrow hq hrx tcc e1 e2 eiv hp
          go_wp2_with fail
          go_roundg (gk - 1)
          case measure => have := unhide hi; omega
          case rel => exact ⟨i + 1, by have := unhide hi; unfold Hid; omega, by go_num, HO2⟩
        · have HO2 : Hid (OvS w8 (.slice (some ⟨g, off, none⟩) N lcap) vs ots (i + 1) (wr.setCells g (off + i * 2) (enI (0, 0)))) := hide ((unhide hO).step1 hiv eiv (by rw [unhide hMv]; omega))
          have m1 : ¬ (i : Int) < (M : Int) := by omega
          clear hcc hrow hq hrx e1 eiv
          go_wp2_with fail
          go_roundg (gk - 1)
          case measure => have := unhide hi; omega
          case rel => exact ⟨i + 1, by have := unhide hi; unfold Hid; omega, by go_num, HO2⟩
      · have hiN : i = N := by have := unhide hi; omega
        have HO9 : Hid (OvS w8 (.slice (some ⟨g, off, none⟩) N lcap) vs ots N wr) := by rw [hiN] at hO; exact hO
        have hn9 : ¬ (i : Int) < (N : Int) := by omega
        obtain ⟨us, hus⟩ : ∃ us, Hid (ovr vs ots N = us) := ⟨_, hide rfl⟩
        have hul : us.length = N := by rw [← unhide hus, ovr_length]; exact unhide hNv
        have HUL := hide hul
        obtain ⟨K2, hK2⟩ : ∃ K, Hid ((rch os us).length = K) := ⟨_, hide rfl⟩
        have hK2N : K2 ≤ 1048576 := by have := rch_len os us; have := unhide HNN; have := unhide hK2; omega
        have HUN : Hid (us.length ≤ 1048576) := by rw [hul]; exact hide hvN
        have HU : Hid (∀ W, Below wr.heap.size wr W → Rx W 2 (.slice (some ⟨g, off, none⟩) N lcap) us.length (flt enI us)) := hide (fun W b => by
          have h1 := (Rx.of_ro (unhide HO9).row).below b (Nat.le_refl _)
          rw [unhide hus, unhide hNv, ← hul] at h1
          rw [hul] at h1 ⊢
          exact h1)
        have HB19 : Hid (Below w1.heap.size w1 wr) := hide (bl_past (unhide HB2) (unhide HB1r))
        have hnb : ∀ {x : Value} {B : Nat}, w3.heap.size ≤ B → (∀ k, x.ownBlock = some k → B ≤ k) → ∀ k, x.ownBlock = some k → ¬ (Value.slice (some ⟨g, off, none⟩) N lcap).ownBlock = some k := fun hB hx k hk e => by
          have e2 : g = k := Option.some.inj e
          have := hx k hk
          have := unhide hglH
          omega
        have HA9 : Hid (Ro wr 1 (.slice aa K ac) K (flt enN (rch os vs))) := hide (((unhide HAa).fr (Fr.of_below (S := fun _ => False) (unhide HB58)) (fun _ _ e => e)).fr (unhide HO9).f (hnb (Nat.le_refl _) (unhide HA0).2))
        have HBb9 : Hid (Ro wr 1 (.slice ba K bc) K (flt enN (rch os vs))) := hide (((unhide HBb).1.fr (Fr.of_below (S := fun _ => False) (unhide HB58)) (fun _ _ e => e)).fr (unhide HO9).f (hnb (unhide HB4).size (unhide HBb).2))
        have hS := unhide HC2 wr (unhide HB19)
        have HOV := hide (unhide HO9).f
        clear hO hul hnb HO9
        go_wp2_with fail
        refine wp_region_held_drew (S := (fun wx => wx.cell? ⟨r, 2, none⟩ = some (.slice xa L xc) ∧ r < wx.heap.size)) (by kernel_rfl) hS (fun hHeld => ?_)
        refine wpAnyH_take (i := 0) (oi := _) (v := .pointer (some ⟨r, 0, none⟩)) rfl (by kernel_rfl) (by kernel_rfl) (by kernel_rfl) (fun _ _ _ h => h) (Or.inl ⟨by rfl, (by intro w9 hSw; obtain ⟨s0, s1⟩ := hSw; go_simp)⟩) (by assumption) ?_
        refine wpAnyH_take (i := 1) (oi := _) (v := .pointer (some ⟨r, 0, none⟩)) rfl (by kernel_rfl) (by kernel_rfl) (by kernel_rfl) (fun _ _ _ h => h) (Or.inl ⟨by rfl, (by intro w9 hSw; obtain ⟨s0, s1⟩ := hSw; go_simp)⟩) (by assumption) ?_
        refine wpAnyH_take (i := 2) (oi := _) (v := .pointer (some ⟨r, 2, none⟩)) rfl (by kernel_rfl) (by kernel_rfl) (by kernel_rfl) (fun _ _ _ h => h) (Or.inl ⟨by rfl, (by intro w9 hSw; obtain ⟨s0, s1⟩ := hSw; go_simp)⟩) (by assumption) ?_
        go_simp
        refine wpAnyH_take (i := 3) (oi := _) (v := .slice xa L xc) rfl (by kernel_rfl) (by kernel_rfl) (by kernel_rfl) (fun _ _ _ h => h) (Or.inl ⟨by rfl, (by intro w9 hSw; obtain ⟨s0, s1⟩ := hSw; go_simp)⟩) (by assumption) ?_
        refine wpAnyH_take (i := 4) (oi := _) (v := .slice (some ⟨g, off, none⟩) N lcap) rfl (by kernel_rfl) (by kernel_rfl) (by kernel_rfl) (fun _ _ _ h => h) (Or.inl ⟨by rfl, (by intro w9 hSw; obtain ⟨s0, s1⟩ := hSw; go_simp)⟩) (by assumption) ?_
        go_simp
        refine wpAnyH_ready (rs := [5]) (by kernel_rfl) (by simp) ?_
        refine AllReadyH.cons (o := _) rfl (fun KK hKK => ?_) AllReadyH.nil
        go_simp
        refine (copyV_any (unhide HU _ (bl_drew wr)) (by rw [unhide HUL]; omega)).mono ?_
        rintro e w10 ⟨cv, rfl, g10⟩
        have HB10 : Hid (Below wr.heap.size wr w10) := hide (bl_past (bl_drew wr) g10.2.1)
        have HCV := hide (Rx.of_ro g10.1)
        obtain ⟨ca, cc, rfl, _⟩ := g10.1.shape
        rw [unhide HUL]
        have S10 := unhide HC2 w10 (bl_past (unhide HB19) (unhide HB10))
        clear g10
        go_simp
        refine hKK.out _ _ S10 (fun _ => ?_)
        clear hKK KK
        go_simp
        refine wpAnyH_ready (rs := [6]) (by kernel_rfl) (by simp) ?_
        refine AllReadyH.cons (o := _) rfl (fun KK hKK => ?_) AllReadyH.nil
        go_simp
        refine (unhide HP6 w10 _ us K2 (bl_past (unhide HB19) (unhide HB10)) (by have := unhide HCV; rw [unhide HUL] at this ⊢; exact this) (unhide HUN) (unhide hK2)).mono ?_
        rintro e w11 ⟨na, nc, rfl, g11⟩
        have HB11 : Hid (Below wr.heap.size wr w11) := hide (bl_past (unhide HB10) g11.2.1)
        have HNX : Hid (Ro w11 1 (.slice na K2 nc) K2 (flt enN (rch os us))) := hide (by have := g11.1; rw [unhide hK2] at this; exact this)
        have S11 := unhide HC2 w11 (bl_past (unhide HB19) (unhide HB11))
        clear g11
        go_simp
        refine hKK.out _ _ S11 (fun _ => ?_)
        clear hKK KK
        go_simp
        refine wpAnyH_take (i := 7) (oi := _) (v := .slice na K2 nc) rfl (by kernel_rfl) (by kernel_rfl) (by kernel_rfl) (fun _ _ _ h => h) (Or.inl ⟨by rfl, (by intro w9 hSw; obtain ⟨s0, s1⟩ := hSw; go_simp)⟩) (S11) ?_
        go_simp
        refine wpAnyH_done (by kernel_rfl) ?_ _
        go_wp2_with fail
        refine (unhide HP8 w11 _ us K2 (bl_past (unhide HB19) (unhide HB11)) (unhide HU _ (unhide HB11)) (unhide HUN) (unhide hK2)).mono ?_
        rintro e w12 ⟨da, dc, rfl, g12⟩
        have HB1112 := hide g12.2.1
        have HB12 : Hid (Below wr.heap.size wr w12) := hide (bl_past (unhide HB11) g12.2.1)
        have HD12 : Hid (Ro w12 1 (.slice da K2 dc) K2 (flt enN (rch os us)) ∧ ∀ k, (Value.slice da K2 dc).ownBlock = some k → w11.heap.size ≤ k) := hide (by have := g12.1; rw [unhide hK2] at this; exact ⟨this, g12.2.2⟩)
        clear g12 S10 S11 hS
        go_wp2_with fail
        refine (unhide HSN w12 _ _ _ K2 (unhide hK2) (unhide HD12).1 ((unhide HNX).fr (Fr.of_below (S := fun _ => False) (unhide HB1112)) (fun _ _ e => e)) hK2N).mono ?_
        rintro e w13 ⟨rfl, b13⟩
        have HB1213 := hide b13
        have HB13' : Hid (Below wr.heap.size wr w13) := hide (bl_past (unhide HB12) b13)
        clear b13
        go_wp2_with fail
        refine (unhide HSN w13 _ _ _ K (unhide hK) ((unhide HA9).fr (Fr.of_below (S := fun _ => False) (unhide HB13')) (fun _ _ e => e)) (unhide HWT _ (bl_past (unhide HB1r) (unhide HB13'))) hKN).mono ?_
        rintro e w14 ⟨rfl, b14⟩
        have HB14 : Hid (Below wr.heap.size wr w14) := hide (bl_past (unhide HB13') b14)
        have HB1214 : Hid (Below w12.heap.size w12 w14) := hide (bl_past (unhide HB1213) b14)
        clear b14
        have HAP : Hid (∀ ty, Calls Try.prog 12 #[.slice (some ⟨w14.heap.size, 0, none⟩) 3 3] (w14.alloc (.cells #[.slice aa K ac, .slice ba K bc, .slice da K2 dc] ty)) fun e w' => e = .returned (.bool true) ∧ Below w2.heap.size w2 w') := hide (fun ty => by
          have hx := bl_box w14 (.cells #[.slice aa K ac, .slice ba K bc, .slice da K2 dc] ty)
          have b9 := bl_past (unhide HB14) hx
          have b12 := bl_past (unhide HB1214) hx
          have ra' := (unhide HA9).fr (Fr.of_below (S := fun _ => False) b9) (fun _ _ e => e)
          have rb' := (unhide HBb9).fr (Fr.of_below (S := fun _ => False) b9) (fun _ _ e => e)
          have rd' := (unhide HD12).1.fr (Fr.of_below (S := fun _ => False) b12) (fun _ _ e => e)
          have ge_a := (unhide HA0).2
          have ge_b := (unhide HBb).2
          have ge_d := (unhide HD12).2
          have lt_a := (unhide HA0).1.lt
          have lt_b := (unhide HBb9).lt
          have lt_a9 := (unhide HA9).lt
          have lt_d := (unhide HD12).1.lt
          have s1 := (unhide HB11).size
          have s2 := (unhide HB14).size
          have s3 := (unhide HB1214).size
          have s4 := (unhide HB4).size
          have s5 := (unhide HB3).size
          have hm := mk3 (la := rch os vs) (lb := rch os vs) (lc := rch os us) (by rw [unhide hK]; exact ra') (by rw [unhide hK]; exact rb') (by rw [unhide hK2]; exact rd')
          have hc := gc3 (w := w14.alloc (.cells #[.slice aa K ac, .slice ba K bc, .slice da K2 dc] ty)) ra'.lt rb'.lt rd'.lt
            (fun k h1 h2 => by have := lt_a k h1; have := ge_b k h2; omega) (fun k h1 h2 => by have := lt_a9 k h1; have := ge_d k h2; omega) (fun k h1 h2 => by have := lt_b k h1; have := ge_d k h2; omega)
          obtain ⟨n0, n1, n2⟩ := box3 (Below.refl (w14.heap.size + 1) (w14.alloc (.cells #[.slice aa K ac, .slice ba K bc, .slice da K2 dc] ty))) (by omega)
          have hV : Rx (w14.alloc (.cells #[.slice aa K ac, .slice ba K bc, .slice da K2 dc] ty)) 1 (.slice (some ⟨w14.heap.size, 0, none⟩) 3 3) [Value.slice aa K ac, .slice ba K bc, .slice da K2 dc].length [Value.slice aa K ac, .slice ba K bc, .slice da K2 dc] := by
            refine ⟨rfl, some ⟨w14.heap.size, 0, none⟩, 3, rfl, Nat.le_refl _, by unfold maxLen; decide, fun _ => ⟨w14.heap.size, 0, rfl, by simp, fun j hj => ?_⟩⟩
            match j, hj with
            | 0, _ => exact n0
            | 1, _ => exact n1
            | 2, _ => exact n2
          have hgc := hc.lt
          refine (apartInts_any hV (fun b hb hk => ?_) hm hc (by simp) (fun k => ?_)).mono ?_
          · have e2 : w14.heap.size = b := Option.some.inj hb
            rcases bk3 hk with q | q | q
            · have := lt_a9 b q; omega
            · have := lt_b b q; omega
            · have := lt_d b q; omega
          · unfold len3
            split <;> first | (rw [unhide hK]; omega) | (rw [unhide hK2]; omega)
          · rintro e w' ⟨rfl, f⟩
            have b2 := bl_past (unhide HB1r) b9
            refine ⟨rfl, b2.trans (f.below b2.size (fun k hk q => ?_))⟩
            rcases bk3 q with q | q | q
            · have := ge_a k q; omega
            · have := ge_b k q; omega
            · have := ge_d k q; have := (unhide HB1r).size; omega)
        clear HNX HA9 HBb9 HD12 HA0 HBb HAa HB13' HB1213 HB1112
        go_wp2_with fail
        refine (unhide HAP _).mono ?_
        rintro e w15 ⟨rfl, b15⟩
        have HB15 := hide b15
        have HB115 : Hid (Below w1.heap.size w1 w15) := hide (bl_past (unhide HB2) b15)
        clear b15 HAP
        go_wp2_with fail
        refine (unhide HP8 w15 _ vs K (unhide HB115) (unhide HRW _ (unhide HB115)) (unhide HVN) (unhide hK)).mono ?_
        rintro e w16 ⟨fa, fc, rfl, g16⟩
        have HB16 := hide g16.2.1
        have HF16 : Hid (Ro w16 1 (.slice fa K fc) K (flt enN (rch os vs))) := hide (by have := g16.1; rw [unhide hK] at this; exact this)
        clear g16
        go_wp2_with fail
        refine (unhide HSN w16 _ _ _ K (unhide hK) (unhide HF16) (unhide HWT _ (bl_past (unhide HB15) (unhide HB16))) hKN).mono ?_
        rintro e w17 ⟨rfl, b17⟩
        have HB17 : Hid (Below w1.heap.size w1 w17) := hide (bl_past (bl_past (unhide HB115) (unhide HB16)) b17)
        clear b17
        go_wp2_with fail
        refine (unhide HAL w17 (unhide HB17)).mono ?_
        rintro e w18 ⟨rfl, b18⟩
        have HB18 : Hid (Below w.heap.size w w18) := hide (bl_past (unhide HB1) (bl_past (unhide HB17) b18))
        clear b18
        go_wp2_with fail
        go_ret
        exact ⟨rfl, unhide HB18⟩
end Go.Proofs.Ytbnjfofkpagblaa
