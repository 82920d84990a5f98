/-
  Reach: the document's.
-/
import Derived.Test.YtbnjfofkpagblaaRMt
namespace Go.Proofs.Ytbnjfofkpagblaa
open Go.RowKit
set_option linter.unusedVariables false
set_option linter.unusedSimpArgs false
theorem mL_len (ks : List Int) : ∀ (vs : List (Int × Int)) (s : RS), s.2.length ≤ (mL ks s vs).2.length
  | [], s => Nat.le_refl _
  | p :: r, s => by
    refine Nat.le_trans ?_ (mL_len ks r (mS ks s p))
    unfold mS
    split
    · simp
    · exact Nat.le_refl _
/-- While the list is gone through. -/
structure RLS (w : World) (os : List Ob) (RR : RS) (i : Nat) (wr : World) (sv ov : Value) (s : RS) : Prop where
  m : MS wr sv ov s
  ok : OkS os.length s
  b : Below w.heap.size w wr
  sb : ∀ k, Sso sv ov k → w.heap.size ≤ k
  rf : rF (kinds os) (itO os) (os.length - i) i s = RR
  il : i ≤ s.2.length
theorem OkS.mLo {os : List Ob} {s : RS} {vs : List (Int × Int)} (h : OkS os.length s) : OkS os.length (Ytbnjfofkpagblaa.mL (kinds os) s vs) := by
  have hk : (kinds os).length = os.length := by unfold kinds; simp
  rw [← hk] at h ⊢
  exact OkS.mL _ _ h
theorem RLS.step {w : World} {os : List Ob} {RR : RS} {i : Nat} {wr w' : World} {sv ov ov' : Value} {s : RS} {n : Int} (h : RLS w os RR i wr sv ov s) (hn : s.2[i]? = some n) (hm : MS w' sv ov' (mL (kinds os) s (itO os n.toNat))) (f : Fr (Sso sv ov) wr w') (ho : ∀ k, ov'.ownBlock = some k → ov.ownBlock = some k ∨ wr.heap.size ≤ k) :
    RLS w os RR (i + 1) w' sv ov' (mL (kinds os) s (itO os n.toNat)) := by
  have hi := (List.getElem?_eq_some_iff.1 hn).1
  have hle := h.ok.le
  have hb := h.b.size
  refine ⟨hm, h.ok.mLo, h.b.trans (f.below hb (fun k hk e => by have := h.sb k e; omega)), fun k hk => ?_, ?_, ?_⟩
  · rcases hk with hk | hk
    · exact h.sb k (.inl hk)
    · rcases ho k hk with q | q
      · exact h.sb k (.inr q)
      · omega
  · rw [← h.rf, rF_step hn (by omega), show os.length - i - 1 = os.length - (i + 1) by omega]
  · have := mL_len (kinds os) (itO os n.toNat) s
    omega
theorem RLS.fin {w : World} {os : List Ob} {RR : RS} {i : Nat} {wr : World} {sv ov : Value} {s : RS} (h : RLS w os RR i wr sv ov s) (hi : s.2.length ≤ i) : Gx w 1 enN RR.2 ov wr := by
  have := h.rf
  rw [rF_done hi] at this
  rw [← this]
  exact ⟨h.m.ou, h.b, fun k hk => h.sb k (.inr hk)⟩
theorem Rx.pos_lt {w : World} {sz : Nat} {v : Value} {n : Nat} {xs : List Value} (h : Rx w sz v n xs) (hn : 0 < n) : ∀ k, v.ownBlock = some k → k < w.heap.size := fun k hk => by
  obtain ⟨_, a, c, e, _, _, h3⟩ := h
  obtain ⟨b, off, e2, hb, _⟩ := h3 hn
  subst e e2
  have : b = k := by simpa [Value.ownBlock] using hk
  omega
theorem Try.info4b : (Try.prog.info? 4).map (fun i => (i.zero, i.size, i.bytes)) = some (some (.bool false), 1, 1) := by kernel_rfl
theorem appBb {w : World} {ops : Array Oper} {rest : List Oper} {o : Oper} {a : Act} {Q : Exit → Act → World → Prop}
    (hg : o.guard = none) (s x : Operand) (hop : o.op = Op.call { callee := Callee.builtin Builtin.append, args := #[s, x], argTypes := #[54, 54] })
    (v : Value) (n : Nat) (l : List Bool) (hs : a.eval s = v) (hr : Ro w 1 v n (flt enBb l)) (ad : Addr) (c : Nat) (k : Bool) (hx : a.eval x = .slice (some ad) 1 c) (hc : ∀ j u, (enBb k)[j]? = some u → w.cell? (ad.add j) = some u) (hN : n ≤ 3000000000000)
    (hK : ∀ v' w', Ro w' 1 v' (n + 1) (flt enBb l ++ enBb k) → w.grownBy w' v.ownBlock → (v'.ownBlock = v.ownBlock ∨ v'.ownBlock = some w.heap.size) → wpList Try.prog ops Q rest (a.put o.dst v') w') :
    wpList Try.prog ops Q (o :: rest) a w := by
  obtain ⟨i0, hi0, hz0, hz1, hz2⟩ := info_parts Try.info4b
  exact wpList_app hg s x 54 hop 4 i0 _ 1 1 Try.underlying54 hi0 hz0 hz1 hz2 rfl (by decide) v n (flt enBb l) hs hr ad 1 c (enBb k) hx rfl hc (by intro u hu; simp only [enBb, List.mem_cons, List.not_mem_nil, or_false] at hu; subst hu; rfl) (by omega) (by unfold maxLen; omega) (by omega) hK
set_option maxRecDepth 100000 in
set_option maxHeartbeats 3200000 in
theorem rreach_any {w : World} {lv rv : Value} {os : List Ob} {vs : List (Int × Int)} (h : OsV w lv os) (hN : os.length ≤ 1048576) (hS : ∀ o ∈ os, o.its.length ≤ 1048576) (hr : Rx w 2 rv vs.length (flt enI vs)) (hvN : vs.length ≤ 1048576) :
    Calls Try.prog 6 #[lv, rv] w fun e w' => ∃ ov, e = .returned ov ∧ Gx w 1 enN (rch os vs) ov w' := by
  have HO : Hid (∀ W, Below w.heap.size w W → OsV W lv os) := fun W b => h.below b (Nat.le_refl _)
  have HM : Hid (∀ (W : World) (sv ov vv : Value) (s : RS) (us : List (Int × Int)), Below w.heap.size w W → OkS os.length s → MS W sv ov s → (∀ k, Sso sv ov k → w.heap.size ≤ k) → Rx w 2 vv us.length (flt enI us) → Rx W 2 vv us.length (flt enI us) → us.length ≤ 1048576 → Calls Try.prog 18 #[lv, sv, ov, vv] W (MtP W sv ov (mL (kinds os) s us))) := fun W sv ov vv s us b ok m sb r0 r1 hu => rmeet_any hN hu ok m (fun W' f => h.below (b.trans (f.below b.size (fun k hk e => by have := sb k e; omega))) (Nat.le_refl _)) r1 (fun hp k hk e => by have := r0.pos_lt hp k hk; have := sb k e; omega)
  have HR := hide hr
  have HS := hide hS
  obtain ⟨a, cap, rfl, hlc, hcm⟩ := h.shape
  obtain ⟨ra, rc, rfl, hrl, hrm⟩ := hr.shape
  unfold maxLen at hcm hrm
  have HVN := hide hvN
  have HW0 := hide h
  clear h hr hS hvN
  obtain ⟨L, hL⟩ : ∃ L, Hid (os.length = L) := ⟨_, hide rfl⟩
  have HRC : Hid (rch os vs = (rF (kinds os) (itO os) os.length 0 (mL (kinds os) (s0 os.length) vs)).2) := hide rfl
  obtain ⟨RR, hRR⟩ : ∃ RR, Hid (rF (kinds os) (itO os) os.length 0 (mL (kinds os) (s0 os.length) vs) = RR) := ⟨_, hide rfl⟩
  obtain ⟨RC, hRC⟩ : ∃ RC, Hid (rch os vs = RC) := ⟨_, hide rfl⟩
  rw [unhide hRC]
  rw [unhide hL] at hN hlc HM HO HW0 ⊢
  go_enter Try.func6, Try.ntmps6
  go_wp2_with fail
  go_loopg [5, 6] L (fun gg t5 t6 wr => ∃ (i : Nat) (v : Value), Hid (i + gg = L) ∧ t5 = v ∧ t6 = .int .i64 (i : Int) ∧ Hid (Gx w 1 enBb (List.replicate i false) v wr))
  case atStart => exact ⟨0, _, by unfold Hid; omega, rfl, rfl, hide ⟨by simpa [flt] using Ro.nil _ _, Below.refl _ _, by simp [Value.ownBlock]⟩⟩
  case round =>
    obtain ⟨i, v, hi, e5, rfl, hG⟩ := hrel
    obtain rfl := e5.symm
    by_cases hlt : i < L
    · have i0 : (0 : Int) ≤ (i : Int) := by omega
      have i1 : (i : Int) < (L : Int) := by omega
      have HRo : Hid (∀ O, Ro (wr.alloc O) 1 v i (flt enBb (List.replicate i false))) := fun O => by
        have := (unhide hG).1.fr ((Fr.refl (fun _ => False) wr).alloc O) (fun _ _ e => e)
        rw [List.length_replicate] at this
        exact this
      have HNC := hide (new_cells wr #[.bool false] 4)
      obtain ⟨LB, hLB⟩ : ∃ l, Hid (List.replicate i false = l) := ⟨_, hide rfl⟩
      rw [unhide hLB] at HRo
      go_wp2_with (first | (at_builtin; refine appBb rfl _ _ rfl _ i LB rfl (unhide HRo _) ⟨wr.heap.size, 0, none⟩ 1 false rfl (unhide HNC) (by omega) ?_))
      intro v' w2 hr hg hat
      have HG2 : Hid (Gx w 1 enBb (List.replicate (i + 1) false) v' w2) := hide (by
        rw [List.replicate_succ']
        refine (unhide hG).push (p := false) (m := i + 1) ?_ (by simp) hg (by simpa using hat)
        rw [unhide hLB]
        exact hr)
      clear hr hg hat hG
      go_wp2_with fail
      go_roundg (gk - 1)
      case measure => have := unhide hi; omega
      case rel => exact ⟨i + 1, _, by have := unhide hi; unfold Hid; omega, rfl, by go_num, HG2⟩
    · have hiL : i = L := by have := unhide hi; omega
      obtain ⟨g1, g2, g3⟩ := unhide hG
      rw [hiL] at g1
      obtain ⟨sa, sc, rfl, hs1, hs2⟩ := g1.shape
      rw [List.length_replicate] at *
      have hms : MS wr (.slice sa L sc) (.slice none 0 0) (s0 L) := ⟨by unfold s0; simpa using g1, by unfold s0; simpa [flt] using Ro.nil wr 1, fun k _ e => by simp [Value.ownBlock] at e⟩
      have hsb : ∀ k, Sso (.slice sa L sc) (.slice none 0 0) k → w.heap.size ≤ k := fun k hk => by
        rcases hk with hk | hk
        · exact g3 k hk
        · simp [Value.ownBlock] at hk
      have HC := hide (unhide HM wr _ _ _ _ vs g2 (OkS.zero L) hms hsb (unhide HR) ((unhide HR).below g2 (Nat.le_refl _)) (unhide HVN))
      have HSB := hide hsb
      have HG2 := hide g2
      have e9 : ¬ i < L := hlt
      clear hG g1 g2 g3 hms hsb hiL hlt
      go_wp2_with fail
      refine (unhide HC).mono ?_
      rintro e w1 ⟨ov, rfl, m1, f1, o1⟩
      have HST : Hid (RLS w os RR 0 w1 (.slice sa L sc) ov (mL (kinds os) (s0 L) vs)) := hide (by
        have hok : OkS os.length (mL (kinds os) (s0 L) vs) := OkS.mLo (by rw [unhide hL]; exact OkS.zero L)
        refine ⟨m1, hok, (unhide HG2).trans (f1.below (unhide HG2).size (fun k hk e => by have := unhide HSB k e; omega)), fun k hk => ?_, by rw [← unhide hRR, unhide hL, Nat.sub_zero], Nat.zero_le _⟩
        rcases hk with hk | hk
        · exact unhide HSB k (.inl hk)
        · rcases o1 k hk with q | q
          · simp [Value.ownBlock] at q
          · have := (unhide HG2).size; omega)
      clear m1 f1 o1 HC
      go_wp2_with fail
      go_loopg [7, 8] L (fun gg t7 t8 wr => ∃ (j : Nat) (ov : Value) (s : RS), Hid (j + gg = L) ∧ t7 = ov ∧ t8 = .int .i64 (j : Int) ∧ Hid (RLS w os RR j wr (.slice sa L sc) ov s))
      case atStart => exact ⟨0, _, _, by unfold Hid; omega, rfl, rfl, HST⟩
      case round =>
        obtain ⟨j, ov, s, hj, e7, rfl, hP⟩ := hrel
        obtain rfl := e7.symm
        obtain ⟨oa, oc, eo, ho1, ho2⟩ := (unhide hP).m.ou.shape
        subst eo
        unfold maxLen at ho2
        have hle := (unhide hP).ok.le
        have hil := (unhide hP).il
        rw [unhide hL] at hle
        by_cases hlt : j < s.2.length
        · obtain ⟨n, hn⟩ : ∃ n, s.2[j]? = some n := ⟨_, List.getElem?_eq_getElem hlt⟩
          obtain ⟨n0, n1, -⟩ := (unhide hP).ok.rng n (List.mem_of_getElem? hn)
          obtain ⟨m, rfl⟩ : ∃ m : Nat, n = (m : Int) := ⟨n.toNat, by omega⟩
          rw [unhide hL] at n1
          obtain ⟨f, hf⟩ : ∃ f, os[m]? = some f := ⟨_, List.getElem?_eq_getElem (by rw [unhide hL]; omega)⟩
          obtain ⟨b, off, ia, ic, ka, kc, ea, hb, -, k1, -, -, -, -, hxi, -, -⟩ := (unhide HO wr (unhide hP).b).six hf
          cases ea
          obtain ⟨b', off', ia', ic', ka', kc', ea, hb0, -, k10, -, -, -, -, hxi0, -, -⟩ := (unhide HW0).six hf
          cases ea
          have k1w := ((unhide hP).b.cell (p := ⟨b, off + m * 6 + 1, none⟩) hb0).trans k10
          rw [k1w] at k1
          cases k1
          have hit : itO os m = f.its := by unfold itO; rw [hf]
          obtain ⟨og, oo, oc', eoo, _, _, hog, hoc⟩ := (Rx.of_ro (unhide hP).m.ou).elem zN hn
          obtain ⟨rfl, -, rfl⟩ : oa = some ⟨og, oo, none⟩ ∧ s.2.length = s.2.length ∧ oc = oc' := by injection eoo with q1 q2 q3; exact ⟨q1, q2, q3⟩
          have z0 : wr.cell? ⟨og, oo + j, none⟩ = some (.int .i64 (m : Int)) := by have := hoc 0 _ rfl; rwa [Nat.mul_one, Nat.add_zero] at this
          have HC := hide (unhide HM wr _ _ _ s f.its (unhide hP).b (by have := (unhide hP).ok; rw [unhide hL] at this; exact this) (unhide hP).m (unhide hP).sb hxi0 hxi (unhide HS f (List.mem_of_getElem? hf)))
          have j0 : (0 : Int) ≤ (j : Int) := by omega
          have j1 : (j : Int) < ((s.2.length : Nat) : Int) := by omega
          have m0 : (0 : Int) ≤ (m : Int) := by omega
          have HNX := hide hn
          have HIT := hide hit
          obtain ⟨SL, hSL⟩ : ∃ l, Hid (s.2.length = l) := ⟨_, hide rfl⟩
          rw [unhide hSL] at j1 HC hle hil hlt ho1 ⊢
          clear hn hit hoc hxi hxi0 k10 eoo hf
          go_wp2_with fail
          refine (unhide HC).mono ?_
          rintro e w5 ⟨ov5, rfl, m5, f5, o5⟩
          have HP5 : Hid (RLS w os RR (j + 1) w5 (.slice sa L sc) ov5 (mL (kinds os) s (itO os m))) := hide (by
            have := (unhide hP).step (unhide HNX) (w' := w5) (ov' := ov5) (by rw [Int.toNat_natCast, unhide HIT]; exact m5) (by rw [unhide hSL]; exact f5) (by rw [unhide hSL]; exact o5)
            rw [Int.toNat_natCast] at this
            exact this)
          clear m5 f5 o5 hP HC
          go_wp2_with fail
          go_roundg (gk - 1)
          case measure => have := unhide hj; omega
          case rel => exact ⟨j + 1, _, _, by have := unhide hj; unfold Hid; omega, rfl, by go_num, HP5⟩
        · have HF := hide ((unhide hP).fin (by omega))
          have HE : Hid (RR.2 = RC) := hide (by rw [← unhide hRC, unhide HRC, unhide hRR])
          obtain ⟨SL, hSL⟩ : ∃ l, Hid (s.2.length = l) := ⟨_, hide rfl⟩
          rw [unhide hSL] at hlt hil hle HF ⊢
          have e8 : ¬ j < SL := hlt
          clear hP
          go_wp2_with fail
          go_ret
          refine ⟨_, rfl, ?_⟩
          rw [← unhide HE]
          exact unhide HF
end Go.Proofs.Ytbnjfofkpagblaa
