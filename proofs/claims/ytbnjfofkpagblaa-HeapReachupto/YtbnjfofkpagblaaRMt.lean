/-
  meet: the document's, the program's.
-/
import Derived.Test.YtbnjfofkpagblaaRPu
namespace Go.Proofs.Ytbnjfofkpagblaa
open Go.RowKit
set_option linter.unusedVariables false
set_option linter.unusedSimpArgs false
theorem rnames_any {w : World} {lv : Value} {os : List Ob} (h : OsV w lv os) (hN : os.length ≤ 1048576) (k n : Int) :
    Calls Try.prog 32 #[lv, .agg #[.int .i64 k, .int .i64 n]] w fun e w' => e = .returned (.bool (nmB (kinds os) (k, n))) ∧ Below w.heap.size w w' := by
  by_cases hk : 6 ≤ k ∧ k ≤ 9
  · have e : nmB (kinds os) (k, n) = vRb (kinds os) (k, n) := by
      rw [vRb_in _ _ _ hk.1 hk.2]
      unfold nmB
      simp [hk]
    rw [e]
    exact names_in h hN k n (by omega)
  · have e : nmB (kinds os) (k, n) = false := by unfold nmB; simp [hk]
    rw [e]
    exact names_out h k n hk
theorem face_neq (d : hp.OD) (W : World) : (binOp .neq 61 d.face .nilIface).run Try.prog W = .ok (.bool true) W := by kernel_rfl
theorem nil_neq (W : World) : (binOp .neq 61 .nilIface .nilIface).run Try.prog W = .ok (.bool false) W := by kernel_rfl
theorem face_guard (d : hp.OD) (o1 o2 : Operand) (W : World) : (eqGuard .neq 61 o1 o2 d.face .nilIface).run Try.prog W = .ok () W := by kernel_rfl
theorem nil_guard (W : World) : (eqGuard .neq 61 (.tmp 19) (.const .nilIface) .nilIface .nilIface).run Try.prog W = .ok () W := by kernel_rfl
theorem nm_guard (ds : List hp.OD) (k n : Int) (W : World) : (eqGuard .neq 61 (.tmp 19) (.const .nilIface) (hp.nface (hp.nm ds k n)) .nilIface).run Try.prog W = .ok () W := by
  cases hp.nm ds k n with
  | some d => exact face_guard d _ _ W
  | none => exact nil_guard W
theorem nm_neq {w : World} {h : Nat} {bud sp : Int} {ov : Value} {ds : List hp.OD} (H : hp.Hp w h bud sp ov ds) {os : List Ob} (hag : ds.map (·.ob) = os) (k n : Int) (W : World) : (binOp .neq 61 (hp.nface (hp.nm ds k n)) .nilIface).run Try.prog W = .ok (.bool (nmB (kinds os) (k, n))) W := by
  have hk : ∀ i : Nat, (kinds os)[i]? = (ds[i]?).map (fun d => (d.k : Int)) := fun i => by
    unfold kinds
    rw [← hag, List.map_map, List.getElem?_map]
    rfl
  cases e : hp.nm ds k n with
  | some d =>
    obtain ⟨h0, h1, h2⟩ := hp.nm_some e
    have hkd := (H.ok _ _ h1).kind
    have : nmB (kinds os) (k, n) = true := by
      unfold nmB
      simp only [Bool.and_eq_true, decide_eq_true_eq]
      refine ⟨⟨by omega, h0⟩, ?_⟩
      rw [hk, h1]
      simp [h2]
    rw [this]
    exact face_neq d W
  | none =>
    have : nmB (kinds os) (k, n) = false := by
      refine Bool.eq_false_iff.2 fun q => ?_
      unfold nmB at q
      simp only [Bool.and_eq_true, decide_eq_true_eq] at q
      obtain ⟨⟨_, h0⟩, h1⟩ := q
      rw [hk] at h1
      unfold hp.nm at e
      rw [if_pos h0] at e
      cases hd : ds[n.toNat]? with
      | none => rw [hd] at h1; cases h1
      | some d =>
        rw [hd] at h1 e
        simp only [Option.map_some, Option.some.injEq] at h1
        simp [Option.filter, h1] at e
    rw [this]
    exact nil_neq W
set_option maxRecDepth 100000 in
set_option maxHeartbeats 3200000 in
theorem rmeet_any {w : World} {lv : Value} {sv ov vv : Value} {os : List Ob} {s : RS} {vs : List (Int × Int)} (hN : os.length ≤ 1048576) (hvN : vs.length ≤ 1048576) (hs : OkS os.length s) (h0 : MS w sv ov s) (HO : ∀ W, Fr (Sso sv ov) w W → OsV W lv os) (HV : Rx w 2 vv vs.length (flt enI vs)) (hvb : 0 < vs.length → ∀ k, vv.ownBlock = some k → ¬ Sso sv ov k) :
    Calls Try.prog 18 #[lv, sv, ov, vv] w (MtP w sv ov (mL (kinds os) s vs)) := by
  have HNM : Hid (∀ W k n, Fr (Sso sv ov) w W → Calls Try.prog 32 #[lv, .agg #[.int .i64 k, .int .i64 n]] W fun e w' => e = .returned (.bool (nmB (kinds os) (k, n))) ∧ Below W.heap.size W w') := fun W k n f => rnames_any (HO W f) hN k n
  obtain ⟨la, lc, rfl, _, _⟩ := (HO w (Fr.refl _ _)).shape
  clear HO
  have HVW : Hid (∀ W, Fr (Sso sv ov) w W → Rx W 2 vv vs.length (flt enI vs)) := fun W f => by
    by_cases q : 0 < vs.length
    · exact HV.fr f (hvb q)
    · obtain ⟨h1, a, c, h2, h3, h4, _⟩ := HV
      exact ⟨h1, a, c, h2, h3, h4, fun e => absurd e q⟩
  obtain ⟨va, vc, rfl, hvl, hvm⟩ := HV.shape
  obtain ⟨sa, sc, rfl, hsl, hsm⟩ := h0.se.shape
  rw [hs.len] at *
  unfold maxLen at hvm hsm
  have HOK : Hid (∀ i, OkS os.length (mL (kinds os) s (vs.take i))) := fun i => by
    have hk : (kinds os).length = os.length := by unfold kinds; simp
    rw [← hk] at hs ⊢
    exact OkS.mL _ _ hs
  have HVB := hide hvb
  obtain ⟨L, hL⟩ : ∃ L, Hid (vs.length = L) := ⟨_, hide rfl⟩
  obtain ⟨M, hM⟩ : ∃ M, Hid (os.length = M) := ⟨_, hide rfl⟩
  obtain ⟨ks, hks⟩ : ∃ ks, Hid (kinds os = ks) := ⟨_, hide rfl⟩
  have hkl : Hid (ks.length = M) := by rw [← unhide hks, ← unhide hM]; unfold kinds; exact List.length_map ..
  rw [unhide hks] at HOK ⊢
  rw [unhide hks] at HNM
  have H0 := hide h0
  rw [unhide hM] at hN HOK hsl H0 HVB HVW HNM ⊢
  rw [unhide hL] at hvN hvl HVW HVB ⊢
  clear h0 hs HV hvb
  go_enter Try.func18, Try.ntmps18
  go_wp2_with fail
  go_loopg [2, 9] L (fun gg t2 t9 wr => ∃ (i : Nat) (ov' : Value), Hid (i + gg = L) ∧ t2 = ov' ∧ t9 = .int .i64 (i : Int) ∧ Hid (MS wr (.slice sa M sc) ov' (mL ks s (vs.take i)) ∧ Fr (Sso (.slice sa M sc) ov) w wr ∧ ∀ k, ov'.ownBlock = some k → ov.ownBlock = some k ∨ w.heap.size ≤ k))
  case atStart => exact ⟨0, _, by unfold Hid; omega, rfl, rfl, hide ⟨by simpa [mL] using unhide H0, Fr.refl _ _, fun k hk => .inl hk⟩⟩
  case round =>
    obtain ⟨i, ov', hi, e2, rfl, hG⟩ := hrel
    obtain rfl := e2.symm
    by_cases hlt : i < L
    · have hil : i < vs.length := by rw [unhide hL]; exact hlt
      obtain ⟨p, hp⟩ : ∃ p, vs[i]? = some p := ⟨_, List.getElem?_eq_getElem hil⟩
      have HST := hide (mL_step (ks := ks) (s := s) hp)
      have hrx : ∀ W, Fr (Sso (.slice sa M sc) ov) w W → Rx W 2 (.slice va L vc) vs.length (flt enI vs) := fun W f => by rw [unhide hL]; exact unhide HVW W f
      obtain ⟨b, off, c', ee, _, _, hb, cc⟩ := (hrx wr (unhide hG).2.1).elem zI hp
      obtain ⟨rfl, ev, rfl⟩ : va = some ⟨b, off, none⟩ ∧ L = vs.length ∧ vc = c' := by injection ee with q1 q2 q3; exact ⟨q1, q2, q3⟩
      clear ee ev
      have HCC : Hid (∀ W, Fr (Sso (.slice sa M sc) ov) w W → W.cell? ⟨b, off + i * 2, none⟩ = some (.int .i64 p.1) ∧ W.cell? ⟨b, off + i * 2 + 1, none⟩ = some (.int .i64 p.2) ∧ b < W.heap.size) := hide (fun W f => by
        obtain ⟨b2, off2, c2, ee, _, _, hb2, cc2⟩ := (hrx W f).elem zI hp
        obtain ⟨rfl, rfl⟩ := slice_inj ee
        exact ⟨by have := cc2 0 _ rfl; simpa using this, by have := cc2 1 _ rfl; simpa using this, hb2⟩)
      have hbs : ¬ Sso (.slice sa M sc) ov b := unhide HVB (by omega) b rfl
      obtain ⟨k0, k1, kl⟩ := unhide HCC wr (unhide hG).2.1
      have i0 : (0 : Int) ≤ (i : Int) := by omega
      have i1 : (i : Int) < (L : Int) := by omega
      have HBS := hide hbs
      clear hrx hb cc hp hbs
      obtain ⟨p1, p2⟩ := p
      simp only at k0 k1 HCC HST
      have HC := hide (unhide HNM wr p1 p2 (unhide hG).2.1)
      go_wp2_with fail
      refine (unhide HC).mono ?_
      rintro e w1 ⟨rfl, b1⟩
      have f1 : Fr (Sso (.slice sa M sc) ov) w w1 := (unhide hG).2.1.trans (Fr.of_below b1)
      have hm1 : MS w1 (.slice sa M sc) ov' (mL ks s (vs.take i)) := (unhide hG).1.fr (Fr.of_below (S := fun _ => False) b1) (fun _ _ e => e)
      have hon := (unhide hG).2.2
      have HON := hide hon
      clear b1 HC hon k0 k1 kl
      cases hb : nmB ks (p1, p2) with
      | false =>
        have HG2 : Hid (MS w1 (.slice sa M sc) ov' (mL ks s (vs.take (i + 1))) ∧ Fr (Sso (.slice sa M sc) ov) w w1 ∧ ∀ k, (ov').ownBlock = some k → ov.ownBlock = some k ∨ w.heap.size ≤ k) := hide ⟨by
          rw [unhide HST]
          unfold mS
          rw [if_neg (by rw [hb]; simp)]
          exact hm1, f1, unhide HON⟩
        clear hm1 f1 hG hb
        go_wp2_with fail
        go_roundg (gk - 1)
        case measure => have := unhide hi; omega
        case rel => exact ⟨i + 1, _, by have := unhide hi; unfold Hid; omega, rfl, by go_num, HG2⟩
      | true =>
        obtain ⟨n0, n1⟩ := nmB_lt hb
        simp only at n0 n1
        obtain ⟨m, rfl⟩ : ∃ m : Nat, p2 = (m : Int) := ⟨p2.toNat, by omega⟩
        rw [Int.toNat_natCast, unhide hkl] at n1
        obtain ⟨bb, hbb⟩ : ∃ bb, (mL ks s (vs.take i)).1[m]? = some bb := ⟨_, List.getElem?_eq_getElem (by rw [(unhide HOK i).len]; exact n1)⟩
        have hse : Ro w1 1 (.slice sa M sc) (mL ks s (vs.take i)).1.length (flt enBb (mL ks s (vs.take i)).1) := hm1.se
        obtain ⟨sg, so, sc', es, hse1⟩ := (Rx.of_ro hse).elem zBb hbb
        obtain ⟨_, _, hsgl, hsc⟩ := hse1
        obtain ⟨rfl, -, rfl⟩ : sa = some ⟨sg, so, none⟩ ∧ M = (mL ks s (vs.take i)).1.length ∧ sc = sc' := by injection es with q1 q2 q3; exact ⟨q1, q2, q3⟩
        have z0 : w1.cell? ⟨sg, so + m, none⟩ = some (.bool bb) := by have := hsc 0 _ rfl; rwa [Nat.mul_one, Nat.add_zero] at this
        have zf : w1.frozen? ⟨sg, so + m, none⟩ = false := hse.free es _
        obtain ⟨k0, k1, kl⟩ := unhide HCC w1 f1
        have m0 : (0 : Int) ≤ (m : Int) := by omega
        have m1 : (m : Int) < (M : Int) := by omega
        clear hsc es hse
        cases bb with
        | true =>
          have HG2 : Hid (MS w1 (.slice (some ⟨sg, so, none⟩) M sc) ov' (mL ks s (vs.take (i + 1))) ∧ Fr (Sso (.slice (some ⟨sg, so, none⟩) M sc) ov) w w1 ∧ ∀ k, (ov').ownBlock = some k → ov.ownBlock = some k ∨ w.heap.size ≤ k) := hide ⟨by
            rw [unhide HST]
            unfold mS
            simp only [Int.toNat_natCast]
            rw [if_neg (by rw [hbb]; simp)]
            exact hm1, f1, unhide HON⟩
          clear hm1 f1 hG hb hbb
          go_wp2_with fail
          go_roundg (gk - 1)
          case measure => have := unhide hi; omega
          case rel => exact ⟨i + 1, _, by have := unhide hi; unfold Hid; omega, rfl, by go_num, HG2⟩
        | false =>
          obtain ⟨MS2, f2⟩ := hm1.mark rfl hbb
          have f12 : Fr (Sso (.slice (some ⟨sg, so, none⟩) M sc) ov) w (w1.setCell ⟨sg, so + m, none⟩ (.bool true)) := f1.trans (f2.mono (fun k _ e => .inl (by rw [e]; rfl)))
          obtain ⟨-, k1s, kls⟩ := unhide HCC _ f12
          have hne : b ≠ sg := fun e => unhide HBS (.inl (by rw [e]; rfl))
          have HRo : Hid (∀ O, Ro ((w1.setCell ⟨sg, so + m, none⟩ (.bool true)).alloc O) 1 ov' (mL ks s (vs.take i)).2.length (flt enN (mL ks s (vs.take i)).2)) := fun O => MS2.ou.fr ((Fr.refl (fun _ => False) _).alloc O) (fun _ _ e => e)
          have hle := (unhide HOK i).le
          have HNC := hide (new_cells (w1.setCell ⟨sg, so + m, none⟩ (.bool true)) #[.int .i64 (m : Int)] 3)
          have hsz : (w1.setCell ⟨sg, so + m, none⟩ (.bool true)).heap.size = w1.heap.size := by simp [World.setCell]
          rw [hsz] at HNC
          have HM2 := hide (And.intro MS2 (And.intro f12 hbb))
          have HSZ := hide hsz
          have HB := hide hb
          clear MS2 f2 f12 hm1 f1 hbb hb hsz
          go_wp2_with (first | (at_builtin; refine appN rfl _ _ rfl _ (mL ks s (vs.take i)).2 rfl (unhide HRo _) ⟨w1.heap.size, 0, none⟩ 1 (m : Int) rfl (unhide HNC) (by omega) ?_))
          intro ov2 w5 hr hg hat
          have HG2 : Hid (MS w5 (.slice (some ⟨sg, so, none⟩) M sc) ov2 (mL ks s (vs.take (i + 1))) ∧ Fr (Sso (.slice (some ⟨sg, so, none⟩) M sc) ov) w w5 ∧ ∀ k, ov2.ownBlock = some k → ov.ownBlock = some k ∨ w.heap.size ≤ k) := hide (by
            obtain ⟨MS2, f12, hbb⟩ := unhide HM2
            obtain ⟨MS3, f3, hn3⟩ := MS2.met ((Below.refl _ _).alloc (Nat.le_refl _) _) hr hg (by simpa [unhide HSZ] using hat)
            refine ⟨?_, ?_, fun k hk => ?_⟩
            · rw [unhide HST]
              unfold mS
              simp only [Int.toNat_natCast]
              rw [if_pos ⟨unhide HB, hbb⟩]
              exact MS3
            · have hsw := f12.size
              refine ⟨f3.os.trans f12.os, f3.tape.trans f12.tape, f3.output.trans f12.output, Nat.le_trans hsw f3.size, fun k hk hn => ?_⟩
              rw [f3.block k (Nat.lt_of_lt_of_le hk hsw) (fun e => ?_)]
              · exact f12.block k hk hn
              · rcases unhide HON k e with q | q
                · exact hn (.inr q)
                · omega
            · rcases hn3 k hk with q | q
              · exact unhide HON k q
              · have := f12.size; exact .inr (Nat.le_trans this q))
          clear hr hg hat HM2 hG
          go_wp2_with fail
          go_roundg (gk - 1)
          case measure => have := unhide hi; omega
          case rel => exact ⟨i + 1, _, by have := unhide hi; unfold Hid; omega, rfl, by go_num, HG2⟩
    · have hiL : i = L := by have := unhide hi; omega
      have HE : Hid (MtP w (.slice sa M sc) ov (mL ks s vs) (.returned ov') wr) := hide (by
        obtain ⟨g1, g2, g3⟩ := unhide hG
        rw [List.take_of_length_le (by rw [unhide hL, hiL]; exact Nat.le_refl _)] at g1
        exact ⟨_, rfl, g1, g2, g3⟩)
      have e9 : ¬ i < L := hlt
      clear hG HVW HOK HNM hiL hlt
      go_wp2_with fail
      go_ret
      exact unhide HE
set_option maxRecDepth 100000 in
set_option maxHeartbeats 3200000 in
theorem pmeet_any {w : World} {h : Nat} {bud sp : Int} {ob : Value} {ds : List hp.OD} {sv ov vv : Value} {os : List Ob} {s : RS} {vs : List (Int × Int)} (hN : os.length ≤ 1048576) (hvN : vs.length ≤ 1048576) (hs : OkS os.length s) (h0 : MS w sv ov s) (HH : ∀ W, Fr (Sso sv ov) w W → hp.Hp W h bud sp ob ds) (hag : ds.map (·.ob) = os) (HV : Rx w 2 vv vs.length (flt enI vs)) (hvb : 0 < vs.length → ∀ k, vv.ownBlock = some k → ¬ Sso sv ov k) :
    Calls Try.prog 19 #[.pointer (some ⟨h, 0, none⟩), ov, sv, vv] w (MtP w sv ov (mL (kinds os) s vs)) := by
  have HNM : Hid (∀ W k n, Fr (Sso sv ov) w W → Calls Try.prog 33 #[.pointer (some ⟨h, 0, none⟩), .agg #[.int .i64 k, .int .i64 n]] W fun e w' => e = .returned (hp.nface (hp.nm ds k n)) ∧ Below W.heap.size W w') := fun W k n f => hp.named_any (HH W f) k n
  have HNQ : Hid (∀ k n (W : World), (binOp .neq 61 (hp.nface (hp.nm ds k n)) .nilIface).run Try.prog W = .ok (.bool (nmB (kinds os) (k, n))) W) := fun k n W => nm_neq (HH w (Fr.refl _ _)) hag k n W
  clear HH hag
  have HVW : Hid (∀ W, Fr (Sso sv ov) w W → Rx W 2 vv vs.length (flt enI vs)) := fun W f => by
    by_cases q : 0 < vs.length
    · exact HV.fr f (hvb q)
    · obtain ⟨h1, a, c, h2, h3, h4, _⟩ := HV
      exact ⟨h1, a, c, h2, h3, h4, fun e => absurd e q⟩
  obtain ⟨va, vc, rfl, hvl, hvm⟩ := HV.shape
  obtain ⟨sa, sc, rfl, hsl, hsm⟩ := h0.se.shape
  rw [hs.len] at *
  unfold maxLen at hvm hsm
  have HOK : Hid (∀ i, OkS os.length (mL (kinds os) s (vs.take i))) := fun i => by
    have hk : (kinds os).length = os.length := by unfold kinds; simp
    rw [← hk] at hs ⊢
    exact OkS.mL _ _ hs
  have HVB := hide hvb
  obtain ⟨L, hL⟩ : ∃ L, Hid (vs.length = L) := ⟨_, hide rfl⟩
  obtain ⟨M, hM⟩ : ∃ M, Hid (os.length = M) := ⟨_, hide rfl⟩
  obtain ⟨ks, hks⟩ : ∃ ks, Hid (kinds os = ks) := ⟨_, hide rfl⟩
  have hkl : Hid (ks.length = M) := by rw [← unhide hks, ← unhide hM]; unfold kinds; exact List.length_map ..
  rw [unhide hks] at HOK ⊢
  rw [unhide hks] at HNQ
  have H0 := hide h0
  rw [unhide hM] at hN HOK hsl H0 HVB HVW HNM ⊢
  rw [unhide hL] at hvN hvl HVW HVB ⊢
  clear h0 hs HV hvb
  go_enter Try.func19, Try.ntmps19
  go_wp2_with fail
  go_loopg [1, 10, 13] L (fun gg t1 t10 t13 wr => ∃ (i : Nat) (ov' : Value), Hid (i + gg = L) ∧ t1 = ov' ∧ t13 = .int .i64 (i : Int) ∧ Hid (MS wr (.slice sa M sc) ov' (mL ks s (vs.take i)) ∧ Fr (Sso (.slice sa M sc) ov) w wr ∧ ∀ k, ov'.ownBlock = some k → ov.ownBlock = some k ∨ w.heap.size ≤ k))
  case atStart => exact ⟨0, _, by unfold Hid; omega, rfl, rfl, hide ⟨by simpa [mL] using unhide H0, Fr.refl _ _, fun k hk => .inl hk⟩⟩
  case round =>
    obtain ⟨i, ov', hi, e2, rfl, hG⟩ := hrel
    obtain rfl := e2.symm
    by_cases hlt : i < L
    · have hil : i < vs.length := by rw [unhide hL]; exact hlt
      obtain ⟨p, hp⟩ : ∃ p, vs[i]? = some p := ⟨_, List.getElem?_eq_getElem hil⟩
      have HST := hide (mL_step (ks := ks) (s := s) hp)
      have hrx : ∀ W, Fr (Sso (.slice sa M sc) ov) w W → Rx W 2 (.slice va L vc) vs.length (flt enI vs) := fun W f => by rw [unhide hL]; exact unhide HVW W f
      obtain ⟨b, off, c', ee, _, _, hb, cc⟩ := (hrx wr (unhide hG).2.1).elem zI hp
      obtain ⟨rfl, ev, rfl⟩ : va = some ⟨b, off, none⟩ ∧ L = vs.length ∧ vc = c' := by injection ee with q1 q2 q3; exact ⟨q1, q2, q3⟩
      clear ee ev
      have HCC : Hid (∀ W, Fr (Sso (.slice sa M sc) ov) w W → W.cell? ⟨b, off + i * 2, none⟩ = some (.int .i64 p.1) ∧ W.cell? ⟨b, off + i * 2 + 1, none⟩ = some (.int .i64 p.2) ∧ b < W.heap.size) := hide (fun W f => by
        obtain ⟨b2, off2, c2, ee, _, _, hb2, cc2⟩ := (hrx W f).elem zI hp
        obtain ⟨rfl, rfl⟩ := slice_inj ee
        exact ⟨by have := cc2 0 _ rfl; simpa using this, by have := cc2 1 _ rfl; simpa using this, hb2⟩)
      have hbs : ¬ Sso (.slice sa M sc) ov b := unhide HVB (by omega) b rfl
      obtain ⟨k0, k1, kl⟩ := unhide HCC wr (unhide hG).2.1
      have i0 : (0 : Int) ≤ (i : Int) := by omega
      have i1 : (i : Int) < (L : Int) := by omega
      have HBS := hide hbs
      clear hrx hb cc hp hbs
      obtain ⟨p1, p2⟩ := p
      simp only at k0 k1 HCC HST
      have HC : Hid (∀ O, Calls Try.prog 33 #[.pointer (some ⟨h, 0, none⟩), .agg #[.int .i64 p1, .int .i64 p2]] (wr.alloc O) fun e w' => e = .returned (hp.nface (hp.nm ds p1 p2)) ∧ Below (wr.alloc O).heap.size (wr.alloc O) w') := fun O => unhide HNM (wr.alloc O) p1 p2 ((unhide hG).2.1.trans (Fr.of_below (bl_box wr O)))
      go_wp2_with fail
      refine (unhide HC _).mono ?_
      rintro e w1 ⟨rfl, b1⟩
      obtain ⟨qq, _, ql⟩ := blk_cells ((b1.block wr.heap.size (by simp)).trans (heap_alloc_new wr _))
      have x1 := qq 1
      simp only [List.getElem?_toArray, List.getElem?_cons_zero, List.getElem?_cons_succ] at x1
      have b1 := bl_past (bl_box wr _) b1
      have f1 : Fr (Sso (.slice sa M sc) ov) w w1 := (unhide hG).2.1.trans (Fr.of_below b1)
      have hm1 : MS w1 (.slice sa M sc) ov' (mL ks s (vs.take i)) := (unhide hG).1.fr (Fr.of_below (S := fun _ => False) b1) (fun _ _ e => e)
      obtain ⟨NF, hNF⟩ : ∃ f, Hid (hp.nface (hp.nm ds p1 p2) = f) := ⟨_, hide rfl⟩
      have hnq := unhide HNQ p1 p2
      have hgq := nm_guard ds p1 p2
      rw [unhide hNF] at hnq hgq ⊢
      clear qq
      have hon := (unhide hG).2.2
      have HON := hide hon
      clear b1 HC hon k0 k1 kl
      cases hb : nmB ks (p1, p2) with
      | false =>
        have HG2 : Hid (MS w1 (.slice sa M sc) ov' (mL ks s (vs.take (i + 1))) ∧ Fr (Sso (.slice sa M sc) ov) w w1 ∧ ∀ k, (ov').ownBlock = some k → ov.ownBlock = some k ∨ w.heap.size ≤ k) := hide ⟨by
          rw [unhide HST]
          unfold mS
          rw [if_neg (by rw [hb]; simp)]
          exact hm1, f1, unhide HON⟩
        rw [hb] at hnq
        clear hm1 f1 hG hb
        go_wp2_with fail
        go_roundg (gk - 1)
        case measure => have := unhide hi; omega
        case rel => exact ⟨i + 1, _, by have := unhide hi; unfold Hid; omega, rfl, by go_num, HG2⟩
      | true =>
        obtain ⟨n0, n1⟩ := nmB_lt hb
        simp only at n0 n1
        obtain ⟨m, rfl⟩ : ∃ m : Nat, p2 = (m : Int) := ⟨p2.toNat, by omega⟩
        rw [Int.toNat_natCast, unhide hkl] at n1
        obtain ⟨bb, hbb⟩ : ∃ bb, (mL ks s (vs.take i)).1[m]? = some bb := ⟨_, List.getElem?_eq_getElem (by rw [(unhide HOK i).len]; exact n1)⟩
        have hse : Ro w1 1 (.slice sa M sc) (mL ks s (vs.take i)).1.length (flt enBb (mL ks s (vs.take i)).1) := hm1.se
        obtain ⟨sg, so, sc', es, hse1⟩ := (Rx.of_ro hse).elem zBb hbb
        obtain ⟨_, _, hsgl, hsc⟩ := hse1
        obtain ⟨rfl, -, rfl⟩ : sa = some ⟨sg, so, none⟩ ∧ M = (mL ks s (vs.take i)).1.length ∧ sc = sc' := by injection es with q1 q2 q3; exact ⟨q1, q2, q3⟩
        have z0 : w1.cell? ⟨sg, so + m, none⟩ = some (.bool bb) := by have := hsc 0 _ rfl; rwa [Nat.mul_one, Nat.add_zero] at this
        have zf : w1.frozen? ⟨sg, so + m, none⟩ = false := hse.free es _
        obtain ⟨k0, k1, kl⟩ := unhide HCC w1 f1
        have m0 : (0 : Int) ≤ (m : Int) := by omega
        have m1 : (m : Int) < (M : Int) := by omega
        clear hsc es hse
        rw [hb] at hnq
        cases bb with
        | true =>
          have HG2 : Hid (MS w1 (.slice (some ⟨sg, so, none⟩) M sc) ov' (mL ks s (vs.take (i + 1))) ∧ Fr (Sso (.slice (some ⟨sg, so, none⟩) M sc) ov) w w1 ∧ ∀ k, (ov').ownBlock = some k → ov.ownBlock = some k ∨ w.heap.size ≤ k) := hide ⟨by
            rw [unhide HST]
            unfold mS
            simp only [Int.toNat_natCast]
            rw [if_neg (by rw [hbb]; simp)]
            exact hm1, f1, unhide HON⟩
          clear hm1 f1 hG hb hbb
          go_wp2_with fail
          go_roundg (gk - 1)
          case measure => have := unhide hi; omega
          case rel => exact ⟨i + 1, _, by have := unhide hi; unfold Hid; omega, rfl, by go_num, HG2⟩
        | false =>
          obtain ⟨MS2, f2⟩ := hm1.mark rfl hbb
          have f12 : Fr (Sso (.slice (some ⟨sg, so, none⟩) M sc) ov) w (w1.setCell ⟨sg, so + m, none⟩ (.bool true)) := f1.trans (f2.mono (fun k _ e => .inl (by rw [e]; rfl)))
          obtain ⟨-, k1s, kls⟩ := unhide HCC _ f12
          have hne : b ≠ sg := fun e => unhide HBS (.inl (by rw [e]; rfl))
          have hsgw : sg ≠ wr.heap.size := fun e => by
            have := (unhide hG).1.se.lt sg rfl
            omega
          have x1s : ∀ u, (w1.setCell ⟨sg, so + m, none⟩ u).cell? ⟨wr.heap.size, 1, none⟩ = some (.int .i64 (m : Int)) := fun u => by
            rw [World.cell?_setCell_other _ _ _ _ (fun e => hsgw (congrArg Addr.block e))]
            exact x1
          have xls := ql
          have HRo : Hid (∀ O, Ro ((w1.setCell ⟨sg, so + m, none⟩ (.bool true)).alloc O) 1 ov' (mL ks s (vs.take i)).2.length (flt enN (mL ks s (vs.take i)).2)) := fun O => MS2.ou.fr ((Fr.refl (fun _ => False) _).alloc O) (fun _ _ e => e)
          have hle := (unhide HOK i).le
          have HNC := hide (new_cells (w1.setCell ⟨sg, so + m, none⟩ (.bool true)) #[.int .i64 (m : Int)] 3)
          have hsz : (w1.setCell ⟨sg, so + m, none⟩ (.bool true)).heap.size = w1.heap.size := by simp [World.setCell]
          rw [hsz] at HNC
          have HM2 := hide (And.intro MS2 (And.intro f12 hbb))
          have HSZ := hide hsz
          have HB := hide hb
          clear MS2 f2 f12 hm1 f1 hbb hb hsz
          go_wp2_with (first | (at_builtin; refine appN rfl _ _ rfl _ (mL ks s (vs.take i)).2 rfl (unhide HRo _) ⟨w1.heap.size, 0, none⟩ 1 (m : Int) rfl (unhide HNC) (by omega) ?_))
          intro ov2 w5 hr hg hat
          have HG2 : Hid (MS w5 (.slice (some ⟨sg, so, none⟩) M sc) ov2 (mL ks s (vs.take (i + 1))) ∧ Fr (Sso (.slice (some ⟨sg, so, none⟩) M sc) ov) w w5 ∧ ∀ k, ov2.ownBlock = some k → ov.ownBlock = some k ∨ w.heap.size ≤ k) := hide (by
            obtain ⟨MS2, f12, hbb⟩ := unhide HM2
            obtain ⟨MS3, f3, hn3⟩ := MS2.met ((Below.refl _ _).alloc (Nat.le_refl _) _) hr hg (by simpa [unhide HSZ] using hat)
            refine ⟨?_, ?_, fun k hk => ?_⟩
            · rw [unhide HST]
              unfold mS
              simp only [Int.toNat_natCast]
              rw [if_pos ⟨unhide HB, hbb⟩]
              exact MS3
            · have hsw := f12.size
              refine ⟨f3.os.trans f12.os, f3.tape.trans f12.tape, f3.output.trans f12.output, Nat.le_trans hsw f3.size, fun k hk hn => ?_⟩
              rw [f3.block k (Nat.lt_of_lt_of_le hk hsw) (fun e => ?_)]
              · exact f12.block k hk hn
              · rcases unhide HON k e with q | q
                · exact hn (.inr q)
                · omega
            · rcases hn3 k hk with q | q
              · exact unhide HON k q
              · have := f12.size; exact .inr (Nat.le_trans this q))
          clear hr hg hat HM2 hG
          go_wp2_with fail
          go_roundg (gk - 1)
          case measure => have := unhide hi; omega
          case rel => exact ⟨i + 1, _, by have := unhide hi; unfold Hid; omega, rfl, by go_num, HG2⟩
    · have hiL : i = L := by have := unhide hi; omega
      have HE : Hid (MtP w (.slice sa M sc) ov (mL ks s vs) (.returned ov') wr) := hide (by
        obtain ⟨g1, g2, g3⟩ := unhide hG
        rw [List.take_of_length_le (by rw [unhide hL, hiL]; exact Nat.le_refl _)] at g1
        exact ⟨_, rfl, g1, g2, g3⟩)
      have e9 : ¬ i < L := hlt
      clear hG HVW HOK HNM hiL hlt
      go_wp2_with fail
      go_ret
      exact unhide HE
end Go.Proofs.Ytbnjfofkpagblaa
