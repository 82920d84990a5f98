/-
  Reach: the program's.
-/
import Derived.Test.YtbnjfofkpagblaaRDr
namespace Go.Proofs.Ytbnjfofkpagblaa
open Go.RowKit
set_option linter.unusedVariables false
set_option linter.unusedSimpArgs false
set_option maxRecDepth 100000 in
theorem vals6 {w : World} {d : hp.OD} (h : d.ok w) (hk : d.k = 6) : Calls Try.prog 86 #[.pointer (some ⟨d.b, 0, none⟩)] w fun e w' => e = .returned d.iv ∧ w' = w := by
  have hc : w.cell? ⟨d.b, 0, none⟩ = some d.iv := h.cell 0 _ (by unfold hp.OD.cells; rw [hk]; rfl)
  have hl := h.lt _ (.inl rfl)
  obtain ⟨a, c, e, _⟩ := h.items.shape
  rw [e] at hc ⊢
  clear h hk e
  go_enter Try.func86, Try.ntmps86
  go_wp2
  go_ret
  exact ⟨rfl, rfl⟩
set_option maxRecDepth 100000 in
theorem vals7 {w : World} {d : hp.OD} (h : d.ok w) (hk : d.k = 7) : Calls Try.prog 90 #[.pointer (some ⟨d.b, 0, none⟩)] w fun e w' => e = .returned d.iv ∧ w' = w := by
  have hc : w.cell? ⟨d.b, 1, none⟩ = some d.iv := h.cell 1 _ (by unfold hp.OD.cells; rw [hk]; rfl)
  have hl := h.lt _ (.inl rfl)
  obtain ⟨a, c, e, _⟩ := h.items.shape
  rw [e] at hc ⊢
  clear h hk e
  go_enter Try.func90, Try.ntmps90
  go_wp2
  go_ret
  exact ⟨rfl, rfl⟩
set_option maxRecDepth 100000 in
theorem vals8 {w : World} {d : hp.OD} (h : d.ok w) (hk : d.k = 8) : Calls Try.prog 94 #[.pointer (some ⟨d.b, 0, none⟩)] w fun e w' => e = .returned d.iv ∧ w' = w := by
  have hc : w.cell? ⟨d.b, 1, none⟩ = some d.iv := h.cell 1 _ (by unfold hp.OD.cells; rw [hk]; rfl)
  have hl := h.lt _ (.inl rfl)
  obtain ⟨a, c, e, _⟩ := h.items.shape
  rw [e] at hc ⊢
  clear h hk e
  go_enter Try.func94, Try.ntmps94
  go_wp2
  go_ret
  exact ⟨rfl, rfl⟩
set_option maxRecDepth 100000 in
theorem vals9 {w : World} {d : hp.OD} (h : d.ok w) (hk : d.k = 9) : Calls Try.prog 98 #[.pointer (some ⟨d.b, 0, none⟩)] w fun e w' => e = .returned d.iv ∧ w' = w := by
  have hc : w.cell? ⟨d.b, 1, none⟩ = some d.iv := h.cell 1 _ (by unfold hp.OD.cells; rw [hk]; rfl)
  have hl := h.lt _ (.inl rfl)
  obtain ⟨a, c, e, _⟩ := h.items.shape
  rw [e] at hc ⊢
  clear h hk e
  go_enter Try.func98, Try.ntmps98
  go_wp2
  go_ret
  exact ⟨rfl, rfl⟩
set_option maxRecDepth 100000 in
set_option maxHeartbeats 6400000 in
theorem preach_any {w : World} {h : Nat} {bud sp : Int} {ob rv : Value} {ds : List hp.OD} {os : List Ob} {vs : List (Int × Int)} (H : hp.Hp w h bud sp ob ds) (hag : ds.map (·.ob) = os) (hN : os.length ≤ 1048576) (hS : ∀ d ∈ ds, d.its.length ≤ 1048576) (hr : Rx w 2 rv vs.length (flt enI vs)) (hvN : vs.length ≤ 1048576) :
    Calls Try.prog 8 #[.pointer (some ⟨h, 0, none⟩), rv] w fun e w' => ∃ ov, e = .returned ov ∧ Gx w 1 enN (rch os vs) ov w' := by
  have hlen : ds.length = os.length := by have := congrArg List.length hag; simpa using this
  have HM : Hid (∀ (W : World) (sv ov vv : Value) (s : RS) (us : List (Int × Int)), Below w.heap.size w W → OkS os.length s → MS W sv ov s → (∀ k, Sso sv ov k → w.heap.size ≤ k) → Rx w 2 vv us.length (flt enI us) → Rx W 2 vv us.length (flt enI us) → us.length ≤ 1048576 → Calls Try.prog 19 #[.pointer (some ⟨h, 0, none⟩), ov, sv, vv] W (MtP W sv ov (mL (kinds os) s us))) := fun W sv ov vv s us b ok m sb r0 r1 hu => pmeet_any hN hu ok m (fun W' f => H.below (b.trans (f.below b.size (fun k hk e => by have := sb k e; omega)))) hag r1 (fun hp k hk e => by have := r0.pos_lt hp k hk; have := sb k e; omega)
  have HH : Hid (∀ W, Below w.heap.size w W → hp.Hp W h bud sp ob ds) := fun W b => H.below b
  have H0 := hide H
  have HR := hide hr
  have HS := hide hS
  have HAG := hide hag
  have HVN := hide hvN
  obtain ⟨oba, obc, rfl, hob1, hob2⟩ := H.row.shape
  obtain ⟨ra, rc, rfl, hrl, hrm⟩ := hr.shape
  unfold maxLen at hob2 hrm
  have HRC : Hid (rch os vs = (rF (kinds os) (itO os) os.length 0 (mL (kinds os) (s0 os.length) vs)).2) := hide rfl
  obtain ⟨RR, hRR⟩ : ∃ RR, Hid (rF (kinds os) (itO os) os.length 0 (mL (kinds os) (s0 os.length) vs) = RR) := ⟨_, hide rfl⟩
  obtain ⟨RC, hRC⟩ : ∃ RC, Hid (rch os vs = RC) := ⟨_, hide rfl⟩
  rw [unhide hRC]
  obtain ⟨L, hL⟩ : ∃ L, Hid (os.length = L) := ⟨_, hide rfl⟩
  have HDL : Hid (ds.length = L) := hide (hlen.trans (unhide hL))
  rw [unhide HDL] at hob1 HH H0
  rw [unhide hL] at hN HM
  have hc2 : w.cell? ⟨h, 2, none⟩ = some (.slice oba L obc) := (unhide H0).c2
  have hhl := (unhide H0).hlt
  obtain ⟨i3, hi3, hz3, hs3, hb3⟩ := info_parts Try.info4b
  have hmk : ∀ W : World, (Instr.makeSlice 54 (.int .i64 (L : Int)) (.int .i64 (L : Int))).run Try.prog W = .ok (.slice (some ⟨W.heap.size, 0, none⟩) L L) (W.alloc (.cells (madeCells (Value.bool false).cells (L * 1)) 4)) := fun W => by
    have := run_make (P := Try.prog) W 54 4 i3 _ Try.underlying54 hi3 hz3 .i64 .i64 (L : Int) (L : Int) (by omega) (by omega) (by rw [hb3]; omega) (by omega)
    rw [hs3] at this
    exact this
  have hro := made_ro enBb false (Value.bool false).cells 1 zBb (by decide) rfl w 4 L (by unfold maxLen; omega)
  obtain ⟨W1, hW1⟩ : ∃ W, Hid (w.alloc (.cells (madeCells (Value.bool false).cells (L * 1)) 4) = W) := ⟨_, hide rfl⟩
  have hb1 : Below w.heap.size w W1 := by rw [← unhide hW1]; exact bl_box w _
  rw [unhide hW1] at hro
  have hms : MS W1 (.slice (some ⟨w.heap.size, 0, none⟩) L L) (.slice none 0 0) (s0 L) := ⟨by unfold s0; simpa using hro, by unfold s0; simpa [flt] using Ro.nil W1 1, fun k _ e => by simp [Value.ownBlock] at e⟩
  have hsb : ∀ k, Sso (.slice (some ⟨w.heap.size, 0, none⟩) L L) (.slice none 0 0) k → w.heap.size ≤ k := fun k hk => by
    rcases hk with hk | hk
    · simp [Value.ownBlock] at hk; omega
    · simp [Value.ownBlock] at hk
  have HC := hide (unhide HM W1 _ _ _ _ vs hb1 (OkS.zero L) hms hsb (unhide HR) ((unhide HR).below hb1 (Nat.le_refl _)) (unhide HVN))
  have HSB := hide hsb
  have HG2 := hide hb1
  have hmk1 := hmk w
  rw [unhide hW1] at hmk1
  clear hro hb1 hms hsb H hr hS hag hlen hvN hmk hi3 hz3 hs3 hb3
  go_enter Try.func8, Try.ntmps8
  go_wp2_with fail
  refine (unhide HC).mono ?_
  rintro e w1 ⟨ov, rfl, m1, f1, o1⟩
  have HST : Hid (RLS w os RR 0 w1 (.slice (some ⟨w.heap.size, 0, none⟩) L L) ov (mL (kinds os) (s0 L) vs)) := hide (by
    have hok : OkS os.length (mL (kinds os) (s0 L) vs) := OkS.mLo (by rw [unhide hL]; exact OkS.zero L)
    refine ⟨m1, hok, (unhide HG2).trans (f1.below (unhide HG2).size (fun k hk e => by have := unhide HSB k e; omega)), fun k hk => ?_, by rw [← unhide hRR, unhide hL, Nat.sub_zero], Nat.zero_le _⟩
    rcases hk with hk | hk
    · exact unhide HSB k (.inl hk)
    · rcases o1 k hk with q | q
      · simp [Value.ownBlock] at q
      · have := (unhide HG2).size; omega)
  obtain ⟨YS, hYS⟩ : ∃ n, Hid (w.heap.size = n) := ⟨_, hide rfl⟩
  clear m1 f1 o1 HC hc2 hhl hmk1 HG2 HSB
  go_wp2_with fail
  go_loopg [6, 7] L (fun gg t6 t7 wr => ∃ (j : Nat) (ov : Value) (s : RS), Hid (j + gg = L) ∧ t6 = ov ∧ t7 = .int .i64 (j : Int) ∧ Hid (RLS w os RR j wr (.slice (some ⟨w.heap.size, 0, none⟩) L L) ov s))
  case atStart => exact ⟨0, _, _, by unfold Hid; omega, rfl, rfl, HST⟩
  case round =>
    obtain ⟨j, ov, s, hj, e7, rfl, hP⟩ := hrel
    obtain rfl := e7.symm
    obtain ⟨oa, oc, eo, ho1, ho2⟩ := (unhide hP).m.ou.shape
    subst eo
    unfold maxLen at ho2
    have hle := (unhide hP).ok.le
    have hil := (unhide hP).il
    rw [unhide hL] at hle
    by_cases hlt : j < s.2.length
    · obtain ⟨n, hn⟩ : ∃ n, s.2[j]? = some n := ⟨_, List.getElem?_eq_getElem hlt⟩
      obtain ⟨n0, n1, -⟩ := (unhide hP).ok.rng n (List.mem_of_getElem? hn)
      obtain ⟨m, rfl⟩ : ∃ m : Nat, n = (m : Int) := ⟨n.toNat, by omega⟩
      rw [unhide hL] at n1
      have hml : m < L := by omega
      obtain ⟨d, hd⟩ : ∃ d, ds[m]? = some d := ⟨_, List.getElem?_eq_getElem (by rw [unhide HDL]; exact hml)⟩
      have hit : itO os m = d.its := by
        unfold itO
        rw [← unhide HAG, List.getElem?_map, hd]
        rfl
      obtain ⟨og, oo, oc', eoo, _, _, hog, hoc⟩ := (Rx.of_ro (unhide hP).m.ou).elem zN hn
      obtain ⟨rfl, -, rfl⟩ : oa = some ⟨og, oo, none⟩ ∧ s.2.length = s.2.length ∧ oc = oc' := by injection eoo with q1 q2 q3; exact ⟨q1, q2, q3⟩
      have z0 : wr.cell? ⟨og, oo + j, none⟩ = some (.int .i64 (m : Int)) := by have := hoc 0 _ rfl; rwa [Nat.mul_one, Nat.add_zero] at this
      have z0d : wr.drew.cell? ⟨og, oo + j, none⟩ = some (.int .i64 (m : Int)) := z0
      have hogd : og < wr.drew.heap.size := hog
      -- the row of objects
      obtain ⟨rg, ro, eob⟩ : ∃ rg ro, oba = some ⟨rg, ro, none⟩ := by
        have hrow := (unhide H0).row
        rw [unhide HDL] at hrow
        obtain ⟨g, o, c, e, _⟩ := hrow.full (by omega)
        cases e
        exact ⟨_, _, rfl⟩
      subst eob
      have HSW : Hid (∀ W, Below w.heap.size w W → W.cell? ⟨h, 2, none⟩ = some (.slice (some ⟨rg, ro, none⟩) L obc) ∧ W.cell? ⟨rg, ro + m, none⟩ = some d.face ∧ h < W.heap.size ∧ rg < W.heap.size) := hide (fun W b => by
        have hh := unhide HH W b
        have hrow := hh.row
        rw [unhide HDL] at hrow
        obtain ⟨g, o, c, e, _, _, hg, hcc⟩ := hrow.full (by omega)
        obtain ⟨rfl, rfl⟩ := slice_inj e
        refine ⟨hh.c2, ?_, hh.hlt, hg⟩
        rw [hcc m (by omega), List.getElem?_map, hd]
        rfl)
      have hokd := (unhide HH wr (unhide hP).b).ok m d hd
      have HOD : Hid (∀ W, Below w.heap.size w W → d.ok W) := hide (fun W b => (unhide HH W b).ok m d hd)
      have hkd := hokd.kind
      obtain ⟨iva, ivc, eiv, _, _⟩ := hokd.items.shape
      have HI0 : Hid (Rx w 2 (.slice iva d.its.length ivc) d.its.length (flt enI d.its)) := hide (by
        have := Rx.of_ro ((unhide H0).ok m d hd).items
        rw [eiv] at this
        exact this)
      have HCM : Hid (∀ W, Below wr.heap.size wr W → MS W (.slice (some ⟨w.heap.size, 0, none⟩) L L) (.slice (some ⟨og, oo, none⟩) s.2.length oc) s → Calls Try.prog 19 #[.pointer (some ⟨h, 0, none⟩), .slice (some ⟨og, oo, none⟩) s.2.length oc, .slice (some ⟨w.heap.size, 0, none⟩) L L, .slice iva d.its.length ivc] W (MtP W (.slice (some ⟨w.heap.size, 0, none⟩) L L) (.slice (some ⟨og, oo, none⟩) s.2.length oc) (mL (kinds os) s d.its))) := hide (fun W b ms => unhide HM W _ _ _ s d.its (bl_past (unhide hP).b b) (by have := (unhide hP).ok; rw [unhide hL] at this; exact this) ms (unhide hP).sb (unhide HI0) ((unhide HI0).below (bl_past (unhide hP).b b) (Nat.le_refl _)) (unhide HS d (List.mem_of_getElem? hd)))
      have j0 : (0 : Int) ≤ (j : Int) := by omega
      have j1 : (j : Int) < ((s.2.length : Nat) : Int) := by omega
      have m0 : (0 : Int) ≤ (m : Int) := by omega
      have m1 : (m : Int) < (L : Int) := by omega
      have HNX := hide hn
      have HIT := hide hit
      have HEIV := hide eiv
      have HMS := hide (unhide hP).m
      obtain ⟨SL, hSL⟩ : ∃ l, Hid (s.2.length = l) := ⟨_, hide rfl⟩
      have HFIN : Hid (∀ w5 ov5, MS w5 (.slice (some ⟨w.heap.size, 0, none⟩) L L) ov5 (mL (kinds os) s d.its) → Fr (Sso (.slice (some ⟨w.heap.size, 0, none⟩) L L) (.slice (some ⟨og, oo, none⟩) s.2.length oc)) wr w5 → (∀ k, ov5.ownBlock = some k → (Value.slice (some ⟨og, oo, none⟩) s.2.length oc).ownBlock = some k ∨ wr.heap.size ≤ k) → RLS w os RR (j + 1) w5 (.slice (some ⟨w.heap.size, 0, none⟩) L L) ov5 (mL (kinds os) s (itO os m))) := hide (fun w5 ov5 a1 a2 a3 => by
        have := (unhide hP).step (unhide HNX) (w' := w5) (ov' := ov5) (by rw [Int.toNat_natCast, unhide HIT]; exact a1) a2 a3
        rw [Int.toNat_natCast] at this
        exact this)
      have HPB := hide (unhide hP).b
      rw [unhide hSL] at j1 HCM hle hil hlt ho1 HMS HFIN ⊢
      have hS := unhide HSW wr (unhide hP).b
      have Sd := unhide HSW wr.drew (bl_past (unhide hP).b (bl_drew wr))
      clear hn hit hoc eoo hokd hd eiv hP HI0
      go_wp2_with fail
      have hkc : d.k = 6 ∨ d.k = 7 ∨ d.k = 8 ∨ d.k = 9 := by omega
      rcases hkc with q | q | q | q
      · have ef : d.face = .iface 81 (.pointer (some ⟨d.b, 0, none⟩)) := by unfold hp.OD.face; rw [q]; rfl
        have HVL : Hid (∀ W, Below w.heap.size w W → Calls Try.prog 86 #[.pointer (some ⟨d.b, 0, none⟩)] W fun e w' => e = .returned (.slice iva d.its.length ivc) ∧ w' = W) := hide (fun W b => by
          have := vals6 (unhide HOD W b) q
          rw [unhide HEIV] at this
          exact this)
        rw [ef] at hS Sd HSW
        clear q ef hkd
        refine wp_region_held_drew (S := (fun wx => wx.cell? ⟨h, 2, none⟩ = some (.slice (some ⟨rg, ro, none⟩) L obc) ∧ wx.cell? ⟨rg, ro + m, none⟩ = some (.iface 81 (.pointer (some ⟨d.b, 0, none⟩))) ∧ h < wx.heap.size ∧ rg < wx.heap.size)) (by kernel_rfl) hS (fun hHeld => ?_)
        refine wpAnyH_take (i := 0) (oi := _) (v := .pointer (some ⟨h, 0, none⟩)) rfl (by kernel_rfl) (by kernel_rfl) (by kernel_rfl) (fun _ _ _ h => h) (Or.inl ⟨by rfl, (by intro w9 hSw; obtain ⟨s0, s1, s2, s3⟩ := hSw; go_simp)⟩) (by assumption) ?_
        refine wpAnyH_take (i := 1) (oi := _) (v := .slice (some ⟨og, oo, none⟩) SL oc) rfl (by kernel_rfl) (by kernel_rfl) (by kernel_rfl) (fun _ _ _ h => h) (Or.inl ⟨by rfl, (by intro w9 hSw; obtain ⟨s0, s1, s2, s3⟩ := hSw; go_simp)⟩) (by assumption) ?_
        refine wpAnyH_take (i := 2) (oi := _) (v := .slice (some ⟨w.heap.size, 0, none⟩) L L) rfl (by kernel_rfl) (by kernel_rfl) (by kernel_rfl) (fun _ _ _ h => h) (Or.inl ⟨by rfl, (by intro w9 hSw; obtain ⟨s0, s1, s2, s3⟩ := hSw; go_simp)⟩) (by assumption) ?_
        go_simp
        refine wpAnyH_take (i := 3) (oi := _) (v := .pointer (some ⟨h, 0, none⟩)) rfl (by kernel_rfl) (by kernel_rfl) (by kernel_rfl) (fun _ _ _ h => h) (Or.inl ⟨by rfl, (by intro w9 hSw; obtain ⟨s0, s1, s2, s3⟩ := hSw; go_simp)⟩) (by assumption) ?_
        refine wpAnyH_take (i := 4) (oi := _) (v := .pointer (some ⟨h, 0, none⟩)) rfl (by kernel_rfl) (by kernel_rfl) (by kernel_rfl) (fun _ _ _ h => h) (Or.inl ⟨by rfl, (by intro w9 hSw; obtain ⟨s0, s1, s2, s3⟩ := hSw; go_simp)⟩) (by assumption) ?_
        refine wpAnyH_take (i := 5) (oi := _) (v := .pointer (some ⟨h, 2, none⟩)) rfl (by kernel_rfl) (by kernel_rfl) (by kernel_rfl) (fun _ _ _ h => h) (Or.inl ⟨by rfl, (by intro w9 hSw; obtain ⟨s0, s1, s2, s3⟩ := hSw; go_simp)⟩) (by assumption) ?_
        go_simp
        refine wpAnyH_take (i := 6) (oi := _) (v := .slice (some ⟨rg, ro, none⟩) L obc) rfl (by kernel_rfl) (by kernel_rfl) (by kernel_rfl) (fun _ _ _ h => h) (Or.inl ⟨by rfl, (by intro w9 hSw; obtain ⟨s0, s1, s2, s3⟩ := hSw; go_simp)⟩) (by assumption) ?_
        refine wpAnyH_take (i := 7) (oi := _) (v := .slice (some ⟨og, oo, none⟩) SL oc) rfl (by kernel_rfl) (by kernel_rfl) (by kernel_rfl) (fun _ _ _ h => h) (Or.inl ⟨by rfl, (by intro w9 hSw; obtain ⟨s0, s1, s2, s3⟩ := hSw; go_simp)⟩) (by assumption) ?_
        refine wpAnyH_take (i := 8) (oi := _) (v := .int .i64 (j : Int)) rfl (by kernel_rfl) (by kernel_rfl) (by kernel_rfl) (fun _ _ _ h => h) (Or.inl ⟨by rfl, (by intro w9 hSw; obtain ⟨s0, s1, s2, s3⟩ := hSw; go_simp)⟩) (by assumption) ?_
        go_simp
        refine wpAnyH_take (i := 9) (oi := _) (v := .pointer (some ⟨og, oo + j, none⟩)) rfl (by kernel_rfl) (by kernel_rfl) (by kernel_rfl) (fun _ _ _ h => h) (Or.inl ⟨by rfl, (by intro w9 hSw; obtain ⟨s0, s1, s2, s3⟩ := hSw; go_simp)⟩) (by assumption) ?_
        go_simp
        refine wpAnyH_ready (rs := [10]) (by kernel_rfl) (by simp) ?_
        refine AllReadyH.cons (o := _) rfl (fun K hK => ?_) AllReadyH.nil
        go_simp
        refine hK.out _ _ Sd (fun _ => ?_)
        clear hK K
        go_simp
        refine wpAnyH_take (i := 11) (oi := _) (v := .pointer (some ⟨rg, ro + m, none⟩)) rfl (by kernel_rfl) (by kernel_rfl) (by kernel_rfl) (fun _ _ _ h => h) (Or.inl ⟨by rfl, (by intro w9 hSw; obtain ⟨s0, s1, s2, s3⟩ := hSw; go_simp)⟩) (Sd) ?_
        go_simp
        refine wpAnyH_take (i := 12) (oi := _) (v := .iface 81 (.pointer (some ⟨d.b, 0, none⟩))) rfl (by kernel_rfl) (by kernel_rfl) (by kernel_rfl) (fun _ _ _ h => h) (Or.inl ⟨by rfl, (by intro w9 hSw; obtain ⟨s0, s1, s2, s3⟩ := hSw; go_simp)⟩) (Sd) ?_
        go_simp
        refine wpAnyH_ready (rs := [13]) (by kernel_rfl) (by simp) ?_
        refine AllReadyH.cons (o := _) rfl (fun K hK => ?_) AllReadyH.nil
        go_simp
        go_invoke
        go_simp
        refine (unhide HVL _ (bl_past (unhide HPB) (bl_drew wr))).mono ?_
        rintro e w3 ⟨rfl, e3⟩
        subst e3
        go_simp
        refine hK.out _ _ Sd (fun _ => ?_)
        clear hK K
        go_simp
        refine wpAnyH_ready (rs := [14]) (by kernel_rfl) (by simp) ?_
        refine AllReadyH.cons (o := _) rfl (fun K hK => ?_) AllReadyH.nil
        go_simp
        refine (unhide HCM _ (bl_drew wr) ((unhide HMS).fr (Fr.of_below (S := fun _ => False) (bl_drew wr)) (fun _ _ e => e))).mono ?_
        rintro e w5 ⟨ov5, rfl, m5, f5, o5⟩
        have HP5 := hide (unhide HFIN w5 ov5 m5 ((Fr.of_below (bl_drew wr)).trans f5) o5)
        have S5 := unhide HSW w5 (unhide HP5).b
        clear m5 f5 o5
        go_simp
        refine hK.out _ _ S5 (fun _ => ?_)
        clear hK K
        go_simp
        refine wpAnyH_take (i := 15) (oi := _) (v := ov5) rfl (by kernel_rfl) (by kernel_rfl) (by kernel_rfl) (fun _ _ _ h => h) (Or.inl ⟨by rfl, (by intro w9 hSw; obtain ⟨s0, s1, s2, s3⟩ := hSw; go_simp)⟩) (S5) ?_
        go_simp
        refine wpAnyH_done (by kernel_rfl) ?_ _
        go_wp2_with fail
        go_roundg (gk - 1)
        case measure => have := unhide hj; omega
        case rel => exact ⟨j + 1, _, _, by have := unhide hj; unfold Hid; omega, rfl, by go_num, HP5⟩
      · have ef : d.face = .iface 84 (.pointer (some ⟨d.b, 0, none⟩)) := by unfold hp.OD.face; rw [q]; rfl
        have HVL : Hid (∀ W, Below w.heap.size w W → Calls Try.prog 90 #[.pointer (some ⟨d.b, 0, none⟩)] W fun e w' => e = .returned (.slice iva d.its.length ivc) ∧ w' = W) := hide (fun W b => by
          have := vals7 (unhide HOD W b) q
          rw [unhide HEIV] at this
          exact this)
        rw [ef] at hS Sd HSW
        clear q ef hkd
        refine wp_region_held_drew (S := (fun wx => wx.cell? ⟨h, 2, none⟩ = some (.slice (some ⟨rg, ro, none⟩) L obc) ∧ wx.cell? ⟨rg, ro + m, none⟩ = some (.iface 84 (.pointer (some ⟨d.b, 0, none⟩))) ∧ h < wx.heap.size ∧ rg < wx.heap.size)) (by kernel_rfl) hS (fun hHeld => ?_)
        refine wpAnyH_take (i := 0) (oi := _) (v := .pointer (some ⟨h, 0, none⟩)) rfl (by kernel_rfl) (by kernel_rfl) (by kernel_rfl) (fun _ _ _ h => h) (Or.inl ⟨by rfl, (by intro w9 hSw; obtain ⟨s0, s1, s2, s3⟩ := hSw; go_simp)⟩) (by assumption) ?_
        refine wpAnyH_take (i := 1) (oi := _) (v := .slice (some ⟨og, oo, none⟩) SL oc) rfl (by kernel_rfl) (by kernel_rfl) (by kernel_rfl) (fun _ _ _ h => h) (Or.inl ⟨by rfl, (by intro w9 hSw; obtain ⟨s0, s1, s2, s3⟩ := hSw; go_simp)⟩) (by assumption) ?_
        refine wpAnyH_take (i := 2) (oi := _) (v := .slice (some ⟨w.heap.size, 0, none⟩) L L) rfl (by kernel_rfl) (by kernel_rfl) (by kernel_rfl) (fun _ _ _ h => h) (Or.inl ⟨by rfl, (by intro w9 hSw; obtain ⟨s0, s1, s2, s3⟩ := hSw; go_simp)⟩) (by assumption) ?_
        go_simp
        refine wpAnyH_take (i := 3) (oi := _) (v := .pointer (some ⟨h, 0, none⟩)) rfl (by kernel_rfl) (by kernel_rfl) (by kernel_rfl) (fun _ _ _ h => h) (Or.inl ⟨by rfl, (by intro w9 hSw; obtain ⟨s0, s1, s2, s3⟩ := hSw; go_simp)⟩) (by assumption) ?_
        refine wpAnyH_take (i := 4) (oi := _) (v := .pointer (some ⟨h, 0, none⟩)) rfl (by kernel_rfl) (by kernel_rfl) (by kernel_rfl) (fun _ _ _ h => h) (Or.inl ⟨by rfl, (by intro w9 hSw; obtain ⟨s0, s1, s2, s3⟩ := hSw; go_simp)⟩) (by assumption) ?_
        refine wpAnyH_take (i := 5) (oi := _) (v := .pointer (some ⟨h, 2, none⟩)) rfl (by kernel_rfl) (by kernel_rfl) (by kernel_rfl) (fun _ _ _ h => h) (Or.inl ⟨by rfl, (by intro w9 hSw; obtain ⟨s0, s1, s2, s3⟩ := hSw; go_simp)⟩) (by assumption) ?_
        go_simp
        refine wpAnyH_take (i := 6) (oi := _) (v := .slice (some ⟨rg, ro, none⟩) L obc) rfl (by kernel_rfl) (by kernel_rfl) (by kernel_rfl) (fun _ _ _ h => h) (Or.inl ⟨by rfl, (by intro w9 hSw; obtain ⟨s0, s1, s2, s3⟩ := hSw; go_simp)⟩) (by assumption) ?_
        refine wpAnyH_take (i := 7) (oi := _) (v := .slice (some ⟨og, oo, none⟩) SL oc) rfl (by kernel_rfl) (by kernel_rfl) (by kernel_rfl) (fun _ _ _ h => h) (Or.inl ⟨by rfl, (by intro w9 hSw; obtain ⟨s0, s1, s2, s3⟩ := hSw; go_simp)⟩) (by assumption) ?_
        refine wpAnyH_take (i := 8) (oi := _) (v := .int .i64 (j : Int)) rfl (by kernel_rfl) (by kernel_rfl) (by kernel_rfl) (fun _ _ _ h => h) (Or.inl ⟨by rfl, (by intro w9 hSw; obtain ⟨s0, s1, s2, s3⟩ := hSw; go_simp)⟩) (by assumption) ?_
        go_simp
        refine wpAnyH_take (i := 9) (oi := _) (v := .pointer (some ⟨og, oo + j, none⟩)) rfl (by kernel_rfl) (by kernel_rfl) (by kernel_rfl) (fun _ _ _ h => h) (Or.inl ⟨by rfl, (by intro w9 hSw; obtain ⟨s0, s1, s2, s3⟩ := hSw; go_simp)⟩) (by assumption) ?_
        go_simp
        refine wpAnyH_ready (rs := [10]) (by kernel_rfl) (by simp) ?_
        refine AllReadyH.cons (o := _) rfl (fun K hK => ?_) AllReadyH.nil
        go_simp
        refine hK.out _ _ Sd (fun _ => ?_)
        clear hK K
        go_simp
        refine wpAnyH_take (i := 11) (oi := _) (v := .pointer (some ⟨rg, ro + m, none⟩)) rfl (by kernel_rfl) (by kernel_rfl) (by kernel_rfl) (fun _ _ _ h => h) (Or.inl ⟨by rfl, (by intro w9 hSw; obtain ⟨s0, s1, s2, s3⟩ := hSw; go_simp)⟩) (Sd) ?_
        go_simp
        refine wpAnyH_take (i := 12) (oi := _) (v := .iface 84 (.pointer (some ⟨d.b, 0, none⟩))) rfl (by kernel_rfl) (by kernel_rfl) (by kernel_rfl) (fun _ _ _ h => h) (Or.inl ⟨by rfl, (by intro w9 hSw; obtain ⟨s0, s1, s2, s3⟩ := hSw; go_simp)⟩) (Sd) ?_
        go_simp
        refine wpAnyH_ready (rs := [13]) (by kernel_rfl) (by simp) ?_
        refine AllReadyH.cons (o := _) rfl (fun K hK => ?_) AllReadyH.nil
        go_simp
        go_invoke
        go_simp
        refine (unhide HVL _ (bl_past (unhide HPB) (bl_drew wr))).mono ?_
        rintro e w3 ⟨rfl, e3⟩
        subst e3
        go_simp
        refine hK.out _ _ Sd (fun _ => ?_)
        clear hK K
        go_simp
        refine wpAnyH_ready (rs := [14]) (by kernel_rfl) (by simp) ?_
        refine AllReadyH.cons (o := _) rfl (fun K hK => ?_) AllReadyH.nil
        go_simp
        refine (unhide HCM _ (bl_drew wr) ((unhide HMS).fr (Fr.of_below (S := fun _ => False) (bl_drew wr)) (fun _ _ e => e))).mono ?_
        rintro e w5 ⟨ov5, rfl, m5, f5, o5⟩
        have HP5 := hide (unhide HFIN w5 ov5 m5 ((Fr.of_below (bl_drew wr)).trans f5) o5)
        have S5 := unhide HSW w5 (unhide HP5).b
        clear m5 f5 o5
        go_simp
        refine hK.out _ _ S5 (fun _ => ?_)
        clear hK K
        go_simp
        refine wpAnyH_take (i := 15) (oi := _) (v := ov5) rfl (by kernel_rfl) (by kernel_rfl) (by kernel_rfl) (fun _ _ _ h => h) (Or.inl ⟨by rfl, (by intro w9 hSw; obtain ⟨s0, s1, s2, s3⟩ := hSw; go_simp)⟩) (S5) ?_
        go_simp
        refine wpAnyH_done (by kernel_rfl) ?_ _
        go_wp2_with fail
        go_roundg (gk - 1)
        case measure => have := unhide hj; omega
        case rel => exact ⟨j + 1, _, _, by have := unhide hj; unfold Hid; omega, rfl, by go_num, HP5⟩
      · have ef : d.face = .iface 87 (.pointer (some ⟨d.b, 0, none⟩)) := by unfold hp.OD.face; rw [q]; rfl
        have HVL : Hid (∀ W, Below w.heap.size w W → Calls Try.prog 94 #[.pointer (some ⟨d.b, 0, none⟩)] W fun e w' => e = .returned (.slice iva d.its.length ivc) ∧ w' = W) := hide (fun W b => by
          have := vals8 (unhide HOD W b) q
          rw [unhide HEIV] at this
          exact this)
        rw [ef] at hS Sd HSW
        clear q ef hkd
        refine wp_region_held_drew (S := (fun wx => wx.cell? ⟨h, 2, none⟩ = some (.slice (some ⟨rg, ro, none⟩) L obc) ∧ wx.cell? ⟨rg, ro + m, none⟩ = some (.iface 87 (.pointer (some ⟨d.b, 0, none⟩))) ∧ h < wx.heap.size ∧ rg < wx.heap.size)) (by kernel_rfl) hS (fun hHeld => ?_)
        refine wpAnyH_take (i := 0) (oi := _) (v := .pointer (some ⟨h, 0, none⟩)) rfl (by kernel_rfl) (by kernel_rfl) (by kernel_rfl) (fun _ _ _ h => h) (Or.inl ⟨by rfl, (by intro w9 hSw; obtain ⟨s0, s1, s2, s3⟩ := hSw; go_simp)⟩) (by assumption) ?_
        refine wpAnyH_take (i := 1) (oi := _) (v := .slice (some ⟨og, oo, none⟩) SL oc) rfl (by kernel_rfl) (by kernel_rfl) (by kernel_rfl) (fun _ _ _ h => h) (Or.inl ⟨by rfl, (by intro w9 hSw; obtain ⟨s0, s1, s2, s3⟩ := hSw; go_simp)⟩) (by assumption) ?_
        refine wpAnyH_take (i := 2) (oi := _) (v := .slice (some ⟨w.heap.size, 0, none⟩) L L) rfl (by kernel_rfl) (by kernel_rfl) (by kernel_rfl) (fun _ _ _ h => h) (Or.inl ⟨by rfl, (by intro w9 hSw; obtain ⟨s0, s1, s2, s3⟩ := hSw; go_simp)⟩) (by assumption) ?_
        go_simp
        refine wpAnyH_take (i := 3) (oi := _) (v := .pointer (some ⟨h, 0, none⟩)) rfl (by kernel_rfl) (by kernel_rfl) (by kernel_rfl) (fun _ _ _ h => h) (Or.inl ⟨by rfl, (by intro w9 hSw; obtain ⟨s0, s1, s2, s3⟩ := hSw; go_simp)⟩) (by assumption) ?_
        refine wpAnyH_take (i := 4) (oi := _) (v := .pointer (some ⟨h, 0, none⟩)) rfl (by kernel_rfl) (by kernel_rfl) (by kernel_rfl) (fun _ _ _ h => h) (Or.inl ⟨by rfl, (by intro w9 hSw; obtain ⟨s0, s1, s2, s3⟩ := hSw; go_simp)⟩) (by assumption) ?_
        refine wpAnyH_take (i := 5) (oi := _) (v := .pointer (some ⟨h, 2, none⟩)) rfl (by kernel_rfl) (by kernel_rfl) (by kernel_rfl) (fun _ _ _ h => h) (Or.inl ⟨by rfl, (by intro w9 hSw; obtain ⟨s0, s1, s2, s3⟩ := hSw; go_simp)⟩) (by assumption) ?_
        go_simp
        refine wpAnyH_take (i := 6) (oi := _) (v := .slice (some ⟨rg, ro, none⟩) L obc) rfl (by kernel_rfl) (by kernel_rfl) (by kernel_rfl) (fun _ _ _ h => h) (Or.inl ⟨by rfl, (by intro w9 hSw; obtain ⟨s0, s1, s2, s3⟩ := hSw; go_simp)⟩) (by assumption) ?_
        refine wpAnyH_take (i := 7) (oi := _) (v := .slice (some ⟨og, oo, none⟩) SL oc) rfl (by kernel_rfl) (by kernel_rfl) (by kernel_rfl) (fun _ _ _ h => h) (Or.inl ⟨by rfl, (by intro w9 hSw; obtain ⟨s0, s1, s2, s3⟩ := hSw; go_simp)⟩) (by assumption) ?_
        refine wpAnyH_take (i := 8) (oi := _) (v := .int .i64 (j : Int)) rfl (by kernel_rfl) (by kernel_rfl) (by kernel_rfl) (fun _ _ _ h => h) (Or.inl ⟨by rfl, (by intro w9 hSw; obtain ⟨s0, s1, s2, s3⟩ := hSw; go_simp)⟩) (by assumption) ?_
        go_simp
        refine wpAnyH_take (i := 9) (oi := _) (v := .pointer (some ⟨og, oo + j, none⟩)) rfl (by kernel_rfl) (by kernel_rfl) (by kernel_rfl) (fun _ _ _ h => h) (Or.inl ⟨by rfl, (by intro w9 hSw; obtain ⟨s0, s1, s2, s3⟩ := hSw; go_simp)⟩) (by assumption) ?_
        go_simp
        refine wpAnyH_ready (rs := [10]) (by kernel_rfl) (by simp) ?_
        refine AllReadyH.cons (o := _) rfl (fun K hK => ?_) AllReadyH.nil
        go_simp
        refine hK.out _ _ Sd (fun _ => ?_)
        clear hK K
        go_simp
        refine wpAnyH_take (i := 11) (oi := _) (v := .pointer (some ⟨rg, ro + m, none⟩)) rfl (by kernel_rfl) (by kernel_rfl) (by kernel_rfl) (fun _ _ _ h => h) (Or.inl ⟨by rfl, (by intro w9 hSw; obtain ⟨s0, s1, s2, s3⟩ := hSw; go_simp)⟩) (Sd) ?_
        go_simp
        refine wpAnyH_take (i := 12) (oi := _) (v := .iface 87 (.pointer (some ⟨d.b, 0, none⟩))) rfl (by kernel_rfl) (by kernel_rfl) (by kernel_rfl) (fun _ _ _ h => h) (Or.inl ⟨by rfl, (by intro w9 hSw; obtain ⟨s0, s1, s2, s3⟩ := hSw; go_simp)⟩) (Sd) ?_
        go_simp
        refine wpAnyH_ready (rs := [13]) (by kernel_rfl) (by simp) ?_
        refine AllReadyH.cons (o := _) rfl (fun K hK => ?_) AllReadyH.nil
        go_simp
        go_invoke
        go_simp
        refine (unhide HVL _ (bl_past (unhide HPB) (bl_drew wr))).mono ?_
        rintro e w3 ⟨rfl, e3⟩
        subst e3
        go_simp
        refine hK.out _ _ Sd (fun _ => ?_)
        clear hK K
        go_simp
        refine wpAnyH_ready (rs := [14]) (by kernel_rfl) (by simp) ?_
        refine AllReadyH.cons (o := _) rfl (fun K hK => ?_) AllReadyH.nil
        go_simp
        refine (unhide HCM _ (bl_drew wr) ((unhide HMS).fr (Fr.of_below (S := fun _ => False) (bl_drew wr)) (fun _ _ e => e))).mono ?_
        rintro e w5 ⟨ov5, rfl, m5, f5, o5⟩
        have HP5 := hide (unhide HFIN w5 ov5 m5 ((Fr.of_below (bl_drew wr)).trans f5) o5)
        have S5 := unhide HSW w5 (unhide HP5).b
        clear m5 f5 o5
        go_simp
        refine hK.out _ _ S5 (fun _ => ?_)
        clear hK K
        go_simp
        refine wpAnyH_take (i := 15) (oi := _) (v := ov5) rfl (by kernel_rfl) (by kernel_rfl) (by kernel_rfl) (fun _ _ _ h => h) (Or.inl ⟨by rfl, (by intro w9 hSw; obtain ⟨s0, s1, s2, s3⟩ := hSw; go_simp)⟩) (S5) ?_
        go_simp
        refine wpAnyH_done (by kernel_rfl) ?_ _
        go_wp2_with fail
        go_roundg (gk - 1)
        case measure => have := unhide hj; omega
        case rel => exact ⟨j + 1, _, _, by have := unhide hj; unfold Hid; omega, rfl, by go_num, HP5⟩
      · have ef : d.face = .iface 90 (.pointer (some ⟨d.b, 0, none⟩)) := by unfold hp.OD.face; rw [q]; rfl
        have HVL : Hid (∀ W, Below w.heap.size w W → Calls Try.prog 98 #[.pointer (some ⟨d.b, 0, none⟩)] W fun e w' => e = .returned (.slice iva d.its.length ivc) ∧ w' = W) := hide (fun W b => by
          have := vals9 (unhide HOD W b) q
          rw [unhide HEIV] at this
          exact this)
        rw [ef] at hS Sd HSW
        clear q ef hkd
        refine wp_region_held_drew (S := (fun wx => wx.cell? ⟨h, 2, none⟩ = some (.slice (some ⟨rg, ro, none⟩) L obc) ∧ wx.cell? ⟨rg, ro + m, none⟩ = some (.iface 90 (.pointer (some ⟨d.b, 0, none⟩))) ∧ h < wx.heap.size ∧ rg < wx.heap.size)) (by kernel_rfl) hS (fun hHeld => ?_)
        refine wpAnyH_take (i := 0) (oi := _) (v := .pointer (some ⟨h, 0, none⟩)) rfl (by kernel_rfl) (by kernel_rfl) (by kernel_rfl) (fun _ _ _ h => h) (Or.inl ⟨by rfl, (by intro w9 hSw; obtain ⟨s0, s1, s2, s3⟩ := hSw; go_simp)⟩) (by assumption) ?_
        refine wpAnyH_take (i := 1) (oi := _) (v := .slice (some ⟨og, oo, none⟩) SL oc) rfl (by kernel_rfl) (by kernel_rfl) (by kernel_rfl) (fun _ _ _ h => h) (Or.inl ⟨by rfl, (by intro w9 hSw; obtain ⟨s0, s1, s2, s3⟩ := hSw; go_simp)⟩) (by assumption) ?_
        refine wpAnyH_take (i := 2) (oi := _) (v := .slice (some ⟨w.heap.size, 0, none⟩) L L) rfl (by kernel_rfl) (by kernel_rfl) (by kernel_rfl) (fun _ _ _ h => h) (Or.inl ⟨by rfl, (by intro w9 hSw; obtain ⟨s0, s1, s2, s3⟩ := hSw; go_simp)⟩) (by assumption) ?_
        go_simp
        refine wpAnyH_take (i := 3) (oi := _) (v := .pointer (some ⟨h, 0, none⟩)) rfl (by kernel_rfl) (by kernel_rfl) (by kernel_rfl) (fun _ _ _ h => h) (Or.inl ⟨by rfl, (by intro w9 hSw; obtain ⟨s0, s1, s2, s3⟩ := hSw; go_simp)⟩) (by assumption) ?_
        refine wpAnyH_take (i := 4) (oi := _) (v := .pointer (some ⟨h, 0, none⟩)) rfl (by kernel_rfl) (by kernel_rfl) (by kernel_rfl) (fun _ _ _ h => h) (Or.inl ⟨by rfl, (by intro w9 hSw; obtain ⟨s0, s1, s2, s3⟩ := hSw; go_simp)⟩) (by assumption) ?_
        refine wpAnyH_take (i := 5) (oi := _) (v := .pointer (some ⟨h, 2, none⟩)) rfl (by kernel_rfl) (by kernel_rfl) (by kernel_rfl) (fun _ _ _ h => h) (Or.inl ⟨by rfl, (by intro w9 hSw; obtain ⟨s0, s1, s2, s3⟩ := hSw; go_simp)⟩) (by assumption) ?_
        go_simp
        refine wpAnyH_take (i := 6) (oi := _) (v := .slice (some ⟨rg, ro, none⟩) L obc) rfl (by kernel_rfl) (by kernel_rfl) (by kernel_rfl) (fun _ _ _ h => h) (Or.inl ⟨by rfl, (by intro w9 hSw; obtain ⟨s0, s1, s2, s3⟩ := hSw; go_simp)⟩) (by assumption) ?_
        refine wpAnyH_take (i := 7) (oi := _) (v := .slice (some ⟨og, oo, none⟩) SL oc) rfl (by kernel_rfl) (by kernel_rfl) (by kernel_rfl) (fun _ _ _ h => h) (Or.inl ⟨by rfl, (by intro w9 hSw; obtain ⟨s0, s1, s2, s3⟩ := hSw; go_simp)⟩) (by assumption) ?_
        refine wpAnyH_take (i := 8) (oi := _) (v := .int .i64 (j : Int)) rfl (by kernel_rfl) (by kernel_rfl) (by kernel_rfl) (fun _ _ _ h => h) (Or.inl ⟨by rfl, (by intro w9 hSw; obtain ⟨s0, s1, s2, s3⟩ := hSw; go_simp)⟩) (by assumption) ?_
        go_simp
        refine wpAnyH_take (i := 9) (oi := _) (v := .pointer (some ⟨og, oo + j, none⟩)) rfl (by kernel_rfl) (by kernel_rfl) (by kernel_rfl) (fun _ _ _ h => h) (Or.inl ⟨by rfl, (by intro w9 hSw; obtain ⟨s0, s1, s2, s3⟩ := hSw; go_simp)⟩) (by assumption) ?_
        go_simp
        refine wpAnyH_ready (rs := [10]) (by kernel_rfl) (by simp) ?_
        refine AllReadyH.cons (o := _) rfl (fun K hK => ?_) AllReadyH.nil
        go_simp
        refine hK.out _ _ Sd (fun _ => ?_)
        clear hK K
        go_simp
        refine wpAnyH_take (i := 11) (oi := _) (v := .pointer (some ⟨rg, ro + m, none⟩)) rfl (by kernel_rfl) (by kernel_rfl) (by kernel_rfl) (fun _ _ _ h => h) (Or.inl ⟨by rfl, (by intro w9 hSw; obtain ⟨s0, s1, s2, s3⟩ := hSw; go_simp)⟩) (Sd) ?_
        go_simp
        refine wpAnyH_take (i := 12) (oi := _) (v := .iface 90 (.pointer (some ⟨d.b, 0, none⟩))) rfl (by kernel_rfl) (by kernel_rfl) (by kernel_rfl) (fun _ _ _ h => h) (Or.inl ⟨by rfl, (by intro w9 hSw; obtain ⟨s0, s1, s2, s3⟩ := hSw; go_simp)⟩) (Sd) ?_
        go_simp
        refine wpAnyH_ready (rs := [13]) (by kernel_rfl) (by simp) ?_
        refine AllReadyH.cons (o := _) rfl (fun K hK => ?_) AllReadyH.nil
        go_simp
        go_invoke
        go_simp
        refine (unhide HVL _ (bl_past (unhide HPB) (bl_drew wr))).mono ?_
        rintro e w3 ⟨rfl, e3⟩
        subst e3
        go_simp
        refine hK.out _ _ Sd (fun _ => ?_)
        clear hK K
        go_simp
        refine wpAnyH_ready (rs := [14]) (by kernel_rfl) (by simp) ?_
        refine AllReadyH.cons (o := _) rfl (fun K hK => ?_) AllReadyH.nil
        go_simp
        refine (unhide HCM _ (bl_drew wr) ((unhide HMS).fr (Fr.of_below (S := fun _ => False) (bl_drew wr)) (fun _ _ e => e))).mono ?_
        rintro e w5 ⟨ov5, rfl, m5, f5, o5⟩
        have HP5 := hide (unhide HFIN w5 ov5 m5 ((Fr.of_below (bl_drew wr)).trans f5) o5)
        have S5 := unhide HSW w5 (unhide HP5).b
        clear m5 f5 o5
        go_simp
        refine hK.out _ _ S5 (fun _ => ?_)
        clear hK K
        go_simp
        refine wpAnyH_take (i := 15) (oi := _) (v := ov5) rfl (by kernel_rfl) (by kernel_rfl) (by kernel_rfl) (fun _ _ _ h => h) (Or.inl ⟨by rfl, (by intro w9 hSw; obtain ⟨s0, s1, s2, s3⟩ := hSw; go_simp)⟩) (S5) ?_
        go_simp
        refine wpAnyH_done (by kernel_rfl) ?_ _
        go_wp2_with fail
        go_roundg (gk - 1)
        case measure => have := unhide hj; omega
        case rel => exact ⟨j + 1, _, _, by have := unhide hj; unfold Hid; omega, rfl, by go_num, HP5⟩
    · have HF := hide ((unhide hP).fin (by omega))
      have HE : Hid (RR.2 = RC) := hide (by rw [← unhide hRC, unhide HRC, unhide hRR])
      obtain ⟨SL, hSL⟩ : ∃ l, Hid (s.2.length = l) := ⟨_, hide rfl⟩
      rw [unhide hSL] at hlt hil hle HF ⊢
      have e8 : ¬ j < SL := hlt
      clear hP
      go_wp2_with fail
      go_ret
      refine ⟨_, rfl, ?_⟩
      rw [← unhide HE]
      exact unhide HF
end Go.Proofs.Ytbnjfofkpagblaa
