/-
  ProfileDecode's law.
-/
import Derived.Test.YtaldacjeeccbhaaD10
import Derived.Test.YtaldacjeeccbhaaR5
import Derived.Test.YtaldacjeeccbhaaKept
namespace Go.Proofs.Ytaldacjeeccbhaa
open Go.RowKit
set_option linter.unusedVariables false
set_option linter.unusedSimpArgs false
theorem bok_app2 {a b : List Int} (h : BOk a) (k : BOk b) : BOk (a ++ b) := fun x hx => by
  rcases List.mem_append.1 hx with hx | hx
  · exact h x hx
  · exact k x hx
theorem Rd.of_ro2 {w : World} {v : Value} {bs : List Int} (h : Ro w 1 v bs.length (bs.map By)) : Go.Proofs.Ytaldacjeeccbhaa.Rd w v bs := by
  by_cases h0 : bs.length = 0
  · rcases h.2 with ⟨e, _⟩ | ⟨g, off, cap, cur, t, e, hh, h1, h2, h3, h4⟩
    · exact .inl ⟨e, List.eq_nil_of_length_eq_zero h0⟩
    · exact .inr ⟨g, off, cap, e, h1, h2, (Array.getElem?_eq_some_iff.1 hh).1, fun i hi => by omega⟩
  · obtain ⟨g, off, cap, e, h1, h2, h3, h4⟩ := h.full (by omega)
    refine .inr ⟨g, off, cap, e, h1, h2, h3, fun i hi => ?_⟩
    rw [h4 i (by omega)]
    simp [By, hi, List.getD]
theorem num_any2 (w : World) (x : Int) : Calls Try.prog 15 #[.int .i64 x] w fun e w' => e = .returned (.int .i64 x) ∧ w' = w := by
  go_enter Try.func15, Try.ntmps15
  go_wp2_with fail
  go_ret
  exact ⟨rfl, rfl⟩
def resF (o : Except Int (List (List Sp))) : List (List Sp) := match o with | .ok f => f | .error _ => []
def resE (o : Except Int (List (List Sp))) : Int := match o with | .ok _ => 0 | .error k => k
theorem DcP.u {w : World} {o : Except Int (List (List Sp))} {e : Ending} {w' : World} (h : DcP w o e w') : Below w.heap.size w w' ∧ ∃ a c vs, e = .returned (.tuple #[.agg #[.slice a (resF o).length c], .int .i64 (resE o)]) ∧ PO (fun k => w.heap.size ≤ k ∧ k < w'.heap.size) w' (.slice a (resF o).length c) (resF o) vs := by
  obtain ⟨h1, h2⟩ := h
  refine ⟨h1, ?_⟩
  cases o with
  | error k =>
    obtain ⟨_, rfl⟩ := h2
    exact ⟨none, 0, [], rfl, OW.nil _⟩
  | ok f =>
    obtain ⟨v, vs, rfl, hp⟩ := h2
    obtain ⟨a, c, ev, _, _⟩ := hp.row.shape
    subst ev
    exact ⟨a, c, vs, rfl, hp.mono (fun k hk hz => ⟨by have hz' : w.heap.size < k := hz; omega, hk⟩)⟩
def enB (b : Int) : List Value := [.int .u8 b]
theorem zB : ∀ p, (enB p).length = 1 := fun _ => rfl
theorem flt_by (l : List Int) : flt enB l = l.map By := by
  induction l with
  | nil => rfl
  | cons x r ih => simp only [flt, List.flatMap_cons, List.map_cons] at ih ⊢; rw [ih]; rfl
/-- What is written into the bytes, so far. -/
def mix (bs os : List Int) (i : Nat) : List Int := os.take i ++ bs.drop i
theorem mix_zero (bs os : List Int) : mix bs os 0 = bs := by simp [mix]
theorem mix_len {bs os : List Int} {i : Nat} (h1 : i ≤ bs.length) (h2 : i ≤ os.length) : (mix bs os i).length = bs.length := by simp [mix]; omega
theorem mix_set {bs os : List Int} {i : Nat} {x : Int} (h1 : i < bs.length) (hx : os[i]? = some x) : (mix bs os i).set i x = mix bs os (i + 1) := by
  have h2 := (List.getElem?_eq_some_iff.1 hx).1
  have ht : (os.take i).length = i := by rw [List.length_take]; omega
  unfold mix
  rw [take_push hx, List.drop_eq_getElem_cons h1, List.set_append, if_neg (by omega), ht, Nat.sub_self, List.append_assoc]
  rfl
theorem mix_bok {bs os : List Int} (h : BOk bs) (k : BOk os) (i : Nat) : BOk (mix bs os i) := bok_app2 (fun x hx => k x (List.mem_of_mem_take hx)) (fun x hx => h x (List.mem_of_mem_drop hx))
/-- A profile that was handed out, lying where nothing else lies. -/
theorem PO.pf {Z S : Nat → Prop} {w w' : World} {v : Value} {f : List (List Sp)} {vs : List Value} (h : PO Z w v f vs) (g : Fr S w w') (hS : ∀ k, k < w.heap.size → Z k → ¬ S k) : PO Z w' v f vs := h.frZ staysR g hS
set_option maxRecDepth 100000 in
set_option maxHeartbeats 12800000 in
theorem decodeLaw (HRS : Hid (∀ (q : Nat) {qb : Nat} (v : Value) (B : List Int) (pl : Nat) (w : World) (h : RefR w q qb v B pl 0) (hB : BOk B) (hN : B.length ≤ 140737488355328) (hqb : qb < w.heap.size), Calls Try.prog 46 #[.pointer (some ⟨q, 0, none⟩)] w (RsP q qb v B w (rdS (B.drop pl)))))
    {w : World} {bv ov : Value} {bs os : List Int} (hb : Go.Proofs.Ytaldacjeeccbhaa.Rd w bv bs) (ho : Go.Proofs.Ytaldacjeeccbhaa.Rd w ov os) (hBb : BOk bs) (hBo : BOk os) (hN : bs.length + 64 ≤ 140737488355328) :
    Calls Try.prog 5 #[bv, ov] w fun e w' => e = .returned (.bool true) ∧ Below w.heap.size w w' := by
  obtain ⟨ba, bc, rfl⟩ := hb.shapeR
  obtain ⟨oa, oc, rfl⟩ := ho.shapeR
  have HD1 := hide (refDecode_any HRS hb hBb (by omega))
  have HB := hide hb
  have HO := hide ho
  have HBb := hide hBb
  have HBo := hide hBo
  clear hb ho hBb hBo
  obtain ⟨N, hNN⟩ : ∃ N, Hid (bs.length = N) := ⟨_, hide rfl⟩
  obtain ⟨M, hMM⟩ : ∃ M, Hid (os.length = M) := ⟨_, hide rfl⟩
  obtain ⟨o1, ho1⟩ : ∃ o1, Hid (decP bs = o1) := ⟨_, hide rfl⟩
  rw [unhide hNN] at HD1 HB hN ⊢
  rw [unhide hMM] at HO ⊢
  rw [unhide ho1] at HD1
  go_enter Try.func5, Try.ntmps5
  go_wp2_with fail
  refine (unhide HD1).mono ?_
  rintro e w1 hd
  obtain ⟨b1, a1, c1, vs1, rfl, P1⟩ := hd.u
  have HP1 := hide P1
  have HB1 := hide b1
  have HLE := hide (lent_any (.slice ba N bc) bs (w1.alloc (.cells #[.slice a1 (resF o1).length c1] 24)) ((unhide HB).below (bl_past b1 (bl_one w1 _))) (by rw [unhide hNN]; exact hN))
  have HX1 := hide (heap_alloc_new w1 (.cells #[.slice a1 (resF o1).length c1] 24))
  obtain ⟨w1', hw1⟩ : ∃ w1', Hid (w1.alloc (.cells #[.slice a1 (resF o1).length c1] 24) = w1') := ⟨_, hide rfl⟩
  have hs1 : w1'.heap.size = w1.heap.size + 1 := by rw [← unhide hw1]; simp
  have HB1a : Hid (Below w1.heap.size w1 w1') := by rw [← unhide hw1]; exact bl_one w1 _
  rw [unhide hw1] at HLE HX1
  have hw1x := unhide hw1
  clear hd P1 b1 HD1 hw1
  go_wp2_with fail
  refine (unhide HLE).mono ?_
  rintro e w2 ⟨lv, rfl, hlo, b2⟩
  rw [List.length_append, marks_length, unhide hNN] at hlo
  have hro := Ro.of_own hlo
  obtain ⟨lb, lo, lc, el, hl1, hl2, hl3, _⟩ := hro.full (by omega)
  subst el
  unfold maxLen at hl2
  have hlb := (hlo.lt lb rfl).1
  have HRL : Hid (Ro w2 1 (.slice (some ⟨lb, lo, none⟩) N lc) N (flt enB bs)) := by
    have q := hro.upto rfl (k := N) (by omega)
    rw [Nat.mul_one, ← List.map_take, List.take_append_of_le_length (by rw [unhide hNN]; exact Nat.le_refl _), List.take_of_length_le (by rw [unhide hNN]; exact Nat.le_refl _)] at q
    rw [flt_by]; exact q
  have HLF : Hid (Ro w2 1 (.slice (some ⟨lb, lo, none⟩) (N + 64) lc) (N + 64) ((bs ++ marks 64).map By)) := hro
  have HB2 := hide b2
  have HD2 := hide (decode_any (w := w2) (v := .slice (some ⟨lb, lo, none⟩) N lc) (bs := bs) (Rd.of_ro2 (by rw [unhide hNN, ← flt_by]; exact unhide HRL)) (unhide HBb) (by rw [unhide hNN]; omega))
  rw [unhide ho1] at HD2
  have n0 : (0 : Int) ≤ (N : Int) := by omega
  have n1 : (N : Int) ≤ (lc : Int) := by omega
  have hs2 := b2.size
  clear HLE hlo hro b2 hw1x
  go_wp2_with fail
  refine (unhide HD2).mono ?_
  rintro e w3 hd
  obtain ⟨b3, a3, c3, vs3, rfl, P3⟩ := hd.u
  have HX3 := hide (heap_alloc_new w3 (.cells #[.slice a3 (resF o1).length c3] 24))
  have HD3 := hide (decode_any (w := w3.alloc (.cells #[.slice a3 (resF o1).length c3] 24)) (v := .slice (some ⟨lb, lo, none⟩) N lc) (bs := bs) (Rd.of_ro2 (by rw [unhide hNN, ← flt_by]; exact (unhide HRL).fr (Fr.of_below (S := fun _ => False) (bl_past b3 (bl_one w3 _))) (fun _ _ e => e))) (unhide HBb) (by rw [unhide hNN]; omega))
  rw [unhide ho1] at HD3
  obtain ⟨w3', hw3⟩ : ∃ w3', Hid (w3.alloc (.cells #[.slice a3 (resF o1).length c3] 24) = w3') := ⟨_, hide rfl⟩
  have hs3 : w3'.heap.size = w3.heap.size + 1 := by rw [← unhide hw3]; simp
  have HB3a : Hid (Below w3.heap.size w3 w3') := by rw [← unhide hw3]; exact bl_one w3 _
  rw [unhide hw3] at HD3 HX3
  have hw3x := unhide hw3
  have HP3 := hide P3
  have HB3 := hide b3
  have hs3b := b3.size
  clear HD2 hd P3 b3 hw3
  go_wp2_with fail
  refine (unhide HD3).mono ?_
  rintro e w4 hd
  obtain ⟨b4, a4, c4, vs4, rfl, P4⟩ := hd.u
  have HX4 := hide (heap_alloc_new w4 (.cells #[.slice a4 (resF o1).length c4] 24))
  obtain ⟨w4', hw4⟩ : ∃ w4', Hid (w4.alloc (.cells #[.slice a4 (resF o1).length c4] 24) = w4') := ⟨_, hide rfl⟩
  have hs4 : w4'.heap.size = w4.heap.size + 1 := by rw [← unhide hw4]; simp
  have HB4a : Hid (Below w4.heap.size w4 w4') := by rw [← unhide hw4]; exact bl_one w4 _
  rw [unhide hw4] at HX4
  have hw4x := unhide hw4
  have HP4 := hide P4
  have HB4 := hide b4
  have hs4b := b4.size
  -- all that is there at w4', as long as nothing below it turns
  have HA1 : Hid (∀ W, Below w1.heap.size w1 W → PO (fun k => w.heap.size ≤ k ∧ k < w1.heap.size) W (.slice a1 (resF o1).length c1) (resF o1) vs1) := fun W hW => (unhide HP1).below staysR hW
  have HA3 : Hid (∀ W, Below w3.heap.size w3 W → PO (fun k => w2.heap.size ≤ k ∧ k < w3.heap.size) W (.slice a3 (resF o1).length c3) (resF o1) vs3) := fun W hW => (unhide HP3).below staysR hW
  have HA4 : Hid (∀ W, Below w4.heap.size w4 W → PO (fun k => w3'.heap.size ≤ k ∧ k < w4.heap.size) W (.slice a4 (resF o1).length c4) (resF o1) vs4) := fun W hW => (unhide HP4).below staysR hW
  have H14 : Hid (Below w1.heap.size w1 w4') := bl_past (bl_past (bl_past (bl_past (bl_past (unhide HB1a) (unhide HB2)) (unhide HB3)) (unhide HB3a)) (unhide HB4)) (unhide HB4a)
  have H34 : Hid (Below w3.heap.size w3 w4') := bl_past (bl_past (unhide HB3a) (unhide HB4)) (unhide HB4a)
  have H24 : Hid (Below w2.heap.size w2 w4') := bl_past (unhide HB3) (unhide H34)
  have HN1 := hide (num_any2 w4' (resE o1))
  have HSM1 := hide (sameP_any (unhide HA3 w4' (unhide H34)).ppf (unhide HA1 w4' (unhide H14)).ppf)
  rw [Dc_true rfl] at HSM1
  have HY5 : Hid (∀ W, Below w4'.heap.size w4' W → W.cell? ⟨w1.heap.size, 0, none⟩ = some (.slice a1 (resF o1).length c1) ∧ w1.heap.size < W.heap.size) := fun W hW => by
    obtain ⟨q1, q2, q3⟩ := blk_cells (((bl_past (bl_past (unhide HB2) (unhide H24)) hW).block w1.heap.size (by omega)).trans (unhide HX1))
    exact ⟨q1 0, q3⟩
  have HY9 : Hid (∀ W, Below w4'.heap.size w4' W → W.cell? ⟨w3.heap.size, 0, none⟩ = some (.slice a3 (resF o1).length c3) ∧ w3.heap.size < W.heap.size) := fun W hW => by
    obtain ⟨q1, q2, q3⟩ := blk_cells (((bl_past (bl_past (unhide HB4) (unhide HB4a)) hW).block w3.heap.size (by omega)).trans (unhide HX3))
    exact ⟨q1 0, q3⟩
  have HY11 : Hid (∀ W, Below w4'.heap.size w4' W → W.cell? ⟨w4.heap.size, 0, none⟩ = some (.slice a4 (resF o1).length c4) ∧ w4.heap.size < W.heap.size) := fun W hW => by
    obtain ⟨q1, q2, q3⟩ := blk_cells ((hW.block w4.heap.size (by omega)).trans (unhide HX4))
    exact ⟨q1 0, q3⟩
  obtain ⟨y5, z5⟩ := unhide HY5 w4' (Below.refl _ _)
  obtain ⟨y9, z9⟩ := unhide HY9 w4' (Below.refl _ _)
  obtain ⟨y11, z11⟩ := unhide HY11 w4' (Below.refl _ _)
  obtain ⟨F, hF⟩ : ∃ F, Hid (resF o1 = F) := ⟨_, hide rfl⟩
  obtain ⟨E, hE⟩ : ∃ E, Hid (resE o1 = E) := ⟨_, hide rfl⟩
  rw [unhide hF] at hw4x HSM1 y5 y9 y11 HY5 HY9 HY11 HA1 HA3 HA4 ⊢
  rw [unhide hE] at HN1 ⊢
  have dE : (E != E) = false := by simp
  clear HD3 hd P4 b4 hw4 hw3x HP1 HP3 HP4 HX1 HX3 HX4
  go_wp2_with fail
  refine (unhide HN1).mono ?_
  rintro e w5 ⟨rfl, e5⟩
  rw [e5]
  clear e5
  go_wp2_with fail
  refine (unhide HN1).mono ?_
  rintro e w5 ⟨rfl, e5⟩
  rw [e5]
  clear e5
  go_wp2_with fail
  refine (unhide HSM1).mono ?_
  rintro e w5 ⟨rfl, b5⟩
  have HB5 := hide b5
  have HSM2 := hide (sameP_any (unhide HA4 w5 (bl_past (unhide HB4a) b5)).ppf (unhide HA1 w5 (bl_past (unhide H14) b5)).ppf)
  rw [Dc_true rfl] at HSM2
  obtain ⟨u5, x5⟩ := unhide HY5 w5 b5
  obtain ⟨u11, x11⟩ := unhide HY11 w5 b5
  clear HSM1 HN1 b5 y5 z5 y9 z9 y11 z11 hw4x
  go_wp2_with fail
  refine (unhide HSM2).mono ?_
  rintro e w6 ⟨rfl, b6⟩
  have H46 := hide (bl_past (unhide HB5) b6)
  have HKP := hide (kept_any (.slice (some ⟨lb, lo, none⟩) (N + 64) lc) (.slice ba N bc) bs w6 (Rd.of_ro2 (by rw [List.length_append, marks_length, unhide hNN]; exact (unhide HLF).fr (Fr.of_below (S := fun _ => False) (bl_past (unhide H24) (unhide H46))) (fun _ _ e => e))) ((unhide HB).below (bl_past (bl_past (unhide HB1) (unhide H14)) (unhide H46))) (by rw [unhide hNN]; exact hN))
  clear HSM2 b6 u5 x5 u11 x11
  go_wp2_with fail
  refine (unhide HKP).mono ?_
  rintro e w6' ⟨rfl, e6⟩
  rw [e6]
  clear e6 HKP w6'
  -- what lies at w6, and stays where the bytes alone are written over
  have hb16 : Below w.heap.size w w6 := bl_past (bl_past (unhide HB1) (unhide H14)) (unhide H46)
  have hsz6 := (unhide H46).size
  have h1s := (unhide HB1).size
  have hlw : w.heap.size < lb := by omega
  have HQ1 := hide (unhide HA1 w6 (bl_past (unhide H14) (unhide H46)))
  have HQ3 := hide (unhide HA3 w6 (bl_past (unhide H34) (unhide H46)))
  have HQ4 := hide (unhide HA4 w6 (bl_past (unhide HB4a) (unhide H46)))
  have HRL6 := hide ((unhide HRL).fr (Fr.of_below (S := fun _ => False) (bl_past (unhide H24) (unhide H46))) (fun _ _ e => e))
  have HFT : Hid (∀ W, Fr (fun k => k = lb) w6 W → Below w.heap.size w W ∧ PO (fun k => w.heap.size ≤ k ∧ k < w1.heap.size) W (.slice a1 F.length c1) F vs1 ∧ PO (fun k => w2.heap.size ≤ k ∧ k < w3.heap.size) W (.slice a3 F.length c3) F vs3 ∧ PO (fun k => w3'.heap.size ≤ k ∧ k < w4.heap.size) W (.slice a4 F.length c4) F vs4 ∧ W.heap[w1.heap.size]? = w6.heap[w1.heap.size]? ∧ W.heap[w3.heap.size]? = w6.heap[w3.heap.size]? ∧ W.heap[w4.heap.size]? = w6.heap[w4.heap.size]? ∧ Go.Proofs.Ytaldacjeeccbhaa.Rd W (.slice oa M oc) os) := fun W hW => by
    refine ⟨hb16.trans (hW.below hb16.size (fun k hk e => by have e' : k = lb := e; omega)), (unhide HQ1).frZ staysR hW (fun k _ hz e => by have e' : k = lb := e; omega), (unhide HQ3).frZ staysR hW (fun k _ hz e => by have e' : k = lb := e; omega), (unhide HQ4).frZ staysR hW (fun k _ hz e => by have e' : k = lb := e; omega), hW.block _ (by omega) (by show ¬ _ = lb; omega), hW.block _ (by omega) (by show ¬ _ = lb; omega), hW.block _ (by omega) (by show ¬ _ = lb; omega), ?_⟩
    refine ((unhide HO).below hb16).keep hW (fun b off len cap e => ?_)
    rcases unhide HO with ⟨e1, _⟩ | ⟨b', off', cap', e1, _, _, hlt, _⟩
    · rw [e1] at e; cases e
    · rw [e1] at e
      cases e
      show ¬ b = lb
      omega
  go_wp2_with fail
  go_loopg [13] (min N M) (fun gg t13 wr => ∃ (i : Nat), Hid (i + gg = min N M) ∧ t13 = .int .i64 (i : Int) ∧ Hid (Fr (fun k => k = lb) w6 wr) ∧ Hid (Ro wr 1 (.slice (some ⟨lb, lo, none⟩) N lc) N (flt enB (mix bs os i))))
  case atStart => exact ⟨0, by unfold Hid; omega, rfl, Fr.refl _ _, by rw [mix_zero]; exact HRL6⟩
  case round =>
    obtain ⟨i, hi, rfl, hW, hR⟩ := hrel
    have i0 : (0 : Int) ≤ (i : Int) := by omega
    by_cases hlt : i < min N M
    · have i1 : (i : Int) < (N : Int) := by omega
      have i2 : (i : Int) < (M : Int) := by omega
      obtain ⟨x, hx⟩ : ∃ x, os[i]? = some x := ⟨_, List.getElem?_eq_getElem (by rw [unhide hMM]; omega)⟩
      obtain ⟨ob, oo, eo, hob, hoc⟩ : ∃ ob oo, oa = some ⟨ob, oo, none⟩ ∧ ob < wr.heap.size ∧ wr.cell? ⟨ob, oo + i, none⟩ = some (.int .u8 x) := by
        rcases (unhide HFT wr (unhide hW)).2.2.2.2.2.2.2 with ⟨e1, e2⟩ | ⟨b', off', cap', e1, _, _, hlt', hcell⟩
        · rw [e2] at hx; simp at hx
        · have ea : oa = some ⟨b', off', none⟩ := by cases e1; rfl
          refine ⟨b', off', ea, hlt', ?_⟩
          rw [hcell i (by rw [unhide hMM]; omega)]
          simp [List.getD, hx]
      subst eo
      have hml : (mix bs os i).length = N := by rw [mix_len (by rw [unhide hNN]; omega) (by rw [unhide hMM]; omega), unhide hNN]
      obtain ⟨z, hz⟩ : ∃ z, (mix bs os i)[i]? = some z := ⟨_, List.getElem?_eq_getElem (by omega)⟩
      obtain ⟨r1, r2⟩ := (unhide hR).put1 zB rfl (i := i) (c := 0) hz (by omega) (x' := x) (u := .int .u8 x) rfl
      rw [mix_set (by rw [unhide hNN]; omega) hx, Nat.mul_one, Nat.add_zero] at r1
      rw [Nat.mul_one, Nat.add_zero] at r2
      have k0 : wr.cell? ⟨lb, lo + i, none⟩ = some (.int .u8 z) := by
        have hrx := Rx.of_ro (unhide hR)
        have hrx' : Rx wr 1 (.slice (some ⟨lb, lo, none⟩) N lc) (mix bs os i).length (flt enB (mix bs os i)) := by rw [hml]; exact hrx
        obtain ⟨b', o', c', e', _, _, _, hc'⟩ := hrx'.elem zB hz
        have eb : b' = lb := by cases e'; rfl
        have eo' : o' = lo := by cases e'; rfl
        subst eb
        subst eo'
        have := hc' 0 _ rfl
        rwa [Nat.mul_one, Nat.add_zero] at this
      have kf := (unhide hR).free rfl (lo + i)
      have hlw2 : lb < wr.heap.size := Nat.lt_of_lt_of_le (by omega) (unhide hW).size
      have HR2 := hide r1
      have HW2 := hide ((unhide hW).trans r2)
      clear r1 r2 hx hz
      go_wp2_with fail
      go_roundg (gk - 1)
      case measure => have := unhide hi; omega
      case rel => exact ⟨i + 1, by have := unhide hi; unfold Hid; omega, by go_num, HW2, HR2⟩
    · have him : i = min N M := by have := unhide hi; omega
      obtain ⟨C, hC⟩ : ∃ C, Hid (mix bs os i = C) := ⟨_, hide rfl⟩
      have hCl : C.length = N := by rw [← unhide hC, mix_len (by rw [unhide hNN]; omega) (by rw [unhide hMM]; omega), unhide hNN]
      have HBC : Hid (BOk C) := by rw [← unhide hC]; exact mix_bok (unhide HBb) (unhide HBo) i
      rw [unhide hC] at hR
      have HRC : Hid (∀ W, Below wr.heap.size wr W → Go.Proofs.Ytaldacjeeccbhaa.Rd W (.slice (some ⟨lb, lo, none⟩) N lc) C) := fun W hW2 => Rd.of_ro2 (by rw [hCl, ← flt_by]; exact (unhide hR).fr (Fr.of_below (S := fun _ => False) hW2) (fun _ _ e => e))
      have HCB := hide (copyBytes_any (.slice (some ⟨lb, lo, none⟩) N lc) C wr (unhide HRC wr (Below.refl _ _)) (by omega))
      clear hR
      by_cases hiN : i < N
      · have i1 : (i : Int) < (N : Int) := by omega
        have i2 : ¬ (i : Int) < (M : Int) := by omega
        go_wp2_with fail
        refine (unhide HCB).mono ?_
        rintro e w8 ⟨cv, rfl, hco, b8⟩
        have hrc8 : Go.Proofs.Ytaldacjeeccbhaa.Rd w8 cv C := Rd.of_own hco
        obtain ⟨ca, cc, ec⟩ := hrc8.shapeR
        subst ec
        have HD4 := hide (refDecode_any HRS hrc8 (unhide HBC) (by omega))
        obtain ⟨o2, ho2⟩ : ∃ o2, Hid (decP C = o2) := ⟨_, hide rfl⟩
        rw [unhide ho2, hCl] at HD4
        have HB8 := hide b8
        clear HCB hco b8 hrc8
        go_wp2_with fail
        refine (unhide HD4).mono ?_
        rintro e w9 hd
        obtain ⟨b9, a9, c9, vs9, rfl, P9⟩ := hd.u
        have HX14 := hide (heap_alloc_new w9 (.cells #[.slice a9 (resF o2).length c9] 24))
        have HD5 := hide (decode_any (unhide HRC (w9.alloc (.cells #[.slice a9 (resF o2).length c9] 24)) (bl_past (unhide HB8) (bl_past b9 (bl_one w9 _)))) (unhide HBC) (by omega))
        rw [unhide ho2] at HD5
        obtain ⟨w9', hw9⟩ : ∃ w9', Hid (w9.alloc (.cells #[.slice a9 (resF o2).length c9] 24) = w9') := ⟨_, hide rfl⟩
        have hs9 : w9'.heap.size = w9.heap.size + 1 := by rw [← unhide hw9]; simp
        have HB9a : Hid (Below w9.heap.size w9 w9') := by rw [← unhide hw9]; exact bl_one w9 _
        rw [unhide hw9] at HD5 HX14
        have hw9x := unhide hw9
        have HB9 := hide b9
        have HP9 := hide P9
        clear HD4 hd b9 P9 hw9
        go_wp2_with fail
        refine (unhide HD5).mono ?_
        rintro e w10 hd
        obtain ⟨b10, a10, c10, vs10, rfl, P10⟩ := hd.u
        have hx16 := heap_alloc_new w10 (.cells #[.slice a10 (resF o2).length c10] 24)
        obtain ⟨w10', hw10⟩ : ∃ w10', Hid (w10.alloc (.cells #[.slice a10 (resF o2).length c10] 24) = w10') := ⟨_, hide rfl⟩
        have HB10a : Hid (Below w10.heap.size w10 w10') := by rw [← unhide hw10]; exact bl_one w10 _
        rw [unhide hw10] at hx16
        have hw10x := unhide hw10
        have H910 : Hid (Below w9.heap.size w9 w10') := bl_past (bl_past (unhide HB9a) b10) (unhide HB10a)
        have HNM := hide (num_any2 w10' (resE o2))
        have HSM3 := hide (sameP_any (P10.below staysR (unhide HB10a)).ppf ((unhide HP9).below staysR (unhide H910)).ppf)
        rw [Dc_true rfl] at HSM3
        have hx14 := ((bl_past b10 (unhide HB10a)).block w9.heap.size (by omega)).trans (unhide HX14)
        obtain ⟨g1, g2, g3⟩ := blk_cells hx14
        obtain ⟨h1, h2, h3⟩ := blk_cells hx16
        have y14 := g1 0
        have y16 := h1 0
        simp at y14 y16
        obtain ⟨F2, hF2⟩ : ∃ F2, Hid (resF o2 = F2) := ⟨_, hide rfl⟩
        obtain ⟨E2, hE2⟩ : ∃ E2, Hid (resE o2 = E2) := ⟨_, hide rfl⟩
        rw [unhide hF2] at hw10x HSM3 y14 y16 ⊢
        rw [unhide hE2] at HNM ⊢
        have dE2 : (E2 != E2) = false := by simp
        have HB810 := hide (bl_past (unhide HB8) (bl_past (unhide HB9) (unhide H910)))
        clear HD5 hd P10 b10 hw10 hx14 hx16 g1 g2 h1 h2 HP9 HX14 hw9x
        go_wp2_with fail
        refine (unhide HNM).mono ?_
        rintro e w11 ⟨rfl, e11⟩
        rw [e11]
        clear e11
        go_wp2_with fail
        refine (unhide HSM3).mono ?_
        rintro e w11 ⟨rfl, b11⟩
        have hb811 := bl_past (unhide HB810) b11
        obtain ⟨f1, f2, f3, f4, f5, f6, f7, _⟩ := unhide HFT wr (unhide hW)
        have y11 : w11.cell? ⟨w4.heap.size, 0, none⟩ = some (.slice a4 F.length c4) := (World.cell?_of_block (a := ⟨w4.heap.size, 0, none⟩) ((hb811.block w4.heap.size (by have := (unhide hW).size; omega)).trans f7)).trans (unhide HY11 w6 (unhide H46)).1
        have z11 : w4.heap.size < w11.heap.size := by have := (unhide hW).size; have := hb811.size; omega
        have HSC := hide (scribble_any (f4.below staysR hb811))
        have HB11 := hide hb811
        clear HSM3 HNM b11 y14 y16 g3 h3 hw10x hb811
        go_wp2_with fail
        refine (unhide HSC).mono ?_
        rintro e w12 ⟨rfl, f12⟩
        have hwr := (unhide hW).size
        have h11 := (unhide HB11).size
        have p3 := (f3.below staysR (unhide HB11)).frZ staysR f12 (fun k _ hz e => by have e1 := e.1; omega)
        have p1 := (f2.below staysR (unhide HB11)).frZ staysR f12 (fun k _ hz e => by have e1 := e.1; omega)
        have HSM4 := hide (sameP_any p3.ppf p1.ppf)
        rw [Dc_true rfl] at HSM4
        have y9 : w12.cell? ⟨w3.heap.size, 0, none⟩ = some (.slice a3 F.length c3) := (f12.cell (a := ⟨w3.heap.size, 0, none⟩) (by show w3.heap.size < _; omega) (by show ¬ (w3'.heap.size ≤ w3.heap.size ∧ _); omega)).trans ((World.cell?_of_block (a := ⟨w3.heap.size, 0, none⟩) (((unhide HB11).block w3.heap.size (by omega)).trans f6)).trans (unhide HY9 w6 (unhide H46)).1)
        have y5 : w12.cell? ⟨w1.heap.size, 0, none⟩ = some (.slice a1 F.length c1) := (f12.cell (a := ⟨w1.heap.size, 0, none⟩) (by show w1.heap.size < _; omega) (by show ¬ (w3'.heap.size ≤ w1.heap.size ∧ _); omega)).trans ((World.cell?_of_block (a := ⟨w1.heap.size, 0, none⟩) (((unhide HB11).block w1.heap.size (by omega)).trans f5)).trans (unhide HY5 w6 (unhide H46)).1)
        have z9 : w3.heap.size < w12.heap.size := by have := f12.size; omega
        have z5 : w1.heap.size < w12.heap.size := by have := f12.size; omega
        have q11 : Below w.heap.size w w11 := f1.trans ((unhide HB11).mono (by have := f1.size; omega))
        have HB12 : Hid (Below w.heap.size w w12) := q11.trans (f12.below q11.size (fun k hk e => by have e1 := e.1; omega))
        clear HSC p1 p3 f1 f2 f3 f4 f5 f6 f7 f12 y11 z11 q11
        go_wp2_with fail
        refine (unhide HSM4).mono ?_
        rintro e w13 ⟨rfl, b13⟩
        have HB13 := hide (bl_past (unhide HB12) b13)
        clear HSM4 b13 y9 y5 z9 z5
        go_wp2_with fail
        go_ret
        exact ⟨rfl, unhide HB13⟩
      · have i1 : ¬ (i : Int) < (N : Int) := by omega
        go_wp2_with fail
        refine (unhide HCB).mono ?_
        rintro e w8 ⟨cv, rfl, hco, b8⟩
        have hrc8 : Go.Proofs.Ytaldacjeeccbhaa.Rd w8 cv C := Rd.of_own hco
        obtain ⟨ca, cc, ec⟩ := hrc8.shapeR
        subst ec
        have HD4 := hide (refDecode_any HRS hrc8 (unhide HBC) (by omega))
        obtain ⟨o2, ho2⟩ : ∃ o2, Hid (decP C = o2) := ⟨_, hide rfl⟩
        rw [unhide ho2, hCl] at HD4
        have HB8 := hide b8
        clear HCB hco b8 hrc8
        go_wp2_with fail
        refine (unhide HD4).mono ?_
        rintro e w9 hd
        obtain ⟨b9, a9, c9, vs9, rfl, P9⟩ := hd.u
        have HX14 := hide (heap_alloc_new w9 (.cells #[.slice a9 (resF o2).length c9] 24))
        have HD5 := hide (decode_any (unhide HRC (w9.alloc (.cells #[.slice a9 (resF o2).length c9] 24)) (bl_past (unhide HB8) (bl_past b9 (bl_one w9 _)))) (unhide HBC) (by omega))
        rw [unhide ho2] at HD5
        obtain ⟨w9', hw9⟩ : ∃ w9', Hid (w9.alloc (.cells #[.slice a9 (resF o2).length c9] 24) = w9') := ⟨_, hide rfl⟩
        have hs9 : w9'.heap.size = w9.heap.size + 1 := by rw [← unhide hw9]; simp
        have HB9a : Hid (Below w9.heap.size w9 w9') := by rw [← unhide hw9]; exact bl_one w9 _
        rw [unhide hw9] at HD5 HX14
        have hw9x := unhide hw9
        have HB9 := hide b9
        have HP9 := hide P9
        clear HD4 hd b9 P9 hw9
        go_wp2_with fail
        refine (unhide HD5).mono ?_
        rintro e w10 hd
        obtain ⟨b10, a10, c10, vs10, rfl, P10⟩ := hd.u
        have hx16 := heap_alloc_new w10 (.cells #[.slice a10 (resF o2).length c10] 24)
        obtain ⟨w10', hw10⟩ : ∃ w10', Hid (w10.alloc (.cells #[.slice a10 (resF o2).length c10] 24) = w10') := ⟨_, hide rfl⟩
        have HB10a : Hid (Below w10.heap.size w10 w10') := by rw [← unhide hw10]; exact bl_one w10 _
        rw [unhide hw10] at hx16
        have hw10x := unhide hw10
        have H910 : Hid (Below w9.heap.size w9 w10') := bl_past (bl_past (unhide HB9a) b10) (unhide HB10a)
        have HNM := hide (num_any2 w10' (resE o2))
        have HSM3 := hide (sameP_any (P10.below staysR (unhide HB10a)).ppf ((unhide HP9).below staysR (unhide H910)).ppf)
        rw [Dc_true rfl] at HSM3
        have hx14 := ((bl_past b10 (unhide HB10a)).block w9.heap.size (by omega)).trans (unhide HX14)
        obtain ⟨g1, g2, g3⟩ := blk_cells hx14
        obtain ⟨h1, h2, h3⟩ := blk_cells hx16
        have y14 := g1 0
        have y16 := h1 0
        simp at y14 y16
        obtain ⟨F2, hF2⟩ : ∃ F2, Hid (resF o2 = F2) := ⟨_, hide rfl⟩
        obtain ⟨E2, hE2⟩ : ∃ E2, Hid (resE o2 = E2) := ⟨_, hide rfl⟩
        rw [unhide hF2] at hw10x HSM3 y14 y16 ⊢
        rw [unhide hE2] at HNM ⊢
        have dE2 : (E2 != E2) = false := by simp
        have HB810 := hide (bl_past (unhide HB8) (bl_past (unhide HB9) (unhide H910)))
        clear HD5 hd P10 b10 hw10 hx14 hx16 g1 g2 h1 h2 HP9 HX14 hw9x
        go_wp2_with fail
        refine (unhide HNM).mono ?_
        rintro e w11 ⟨rfl, e11⟩
        rw [e11]
        clear e11
        go_wp2_with fail
        refine (unhide HSM3).mono ?_
        rintro e w11 ⟨rfl, b11⟩
        have hb811 := bl_past (unhide HB810) b11
        obtain ⟨f1, f2, f3, f4, f5, f6, f7, _⟩ := unhide HFT wr (unhide hW)
        have y11 : w11.cell? ⟨w4.heap.size, 0, none⟩ = some (.slice a4 F.length c4) := (World.cell?_of_block (a := ⟨w4.heap.size, 0, none⟩) ((hb811.block w4.heap.size (by have := (unhide hW).size; omega)).trans f7)).trans (unhide HY11 w6 (unhide H46)).1
        have z11 : w4.heap.size < w11.heap.size := by have := (unhide hW).size; have := hb811.size; omega
        have HSC := hide (scribble_any (f4.below staysR hb811))
        have HB11 := hide hb811
        clear HSM3 HNM b11 y14 y16 g3 h3 hw10x hb811
        go_wp2_with fail
        refine (unhide HSC).mono ?_
        rintro e w12 ⟨rfl, f12⟩
        have hwr := (unhide hW).size
        have h11 := (unhide HB11).size
        have p3 := (f3.below staysR (unhide HB11)).frZ staysR f12 (fun k _ hz e => by have e1 := e.1; omega)
        have p1 := (f2.below staysR (unhide HB11)).frZ staysR f12 (fun k _ hz e => by have e1 := e.1; omega)
        have HSM4 := hide (sameP_any p3.ppf p1.ppf)
        rw [Dc_true rfl] at HSM4
        have y9 : w12.cell? ⟨w3.heap.size, 0, none⟩ = some (.slice a3 F.length c3) := (f12.cell (a := ⟨w3.heap.size, 0, none⟩) (by show w3.heap.size < _; omega) (by show ¬ (w3'.heap.size ≤ w3.heap.size ∧ _); omega)).trans ((World.cell?_of_block (a := ⟨w3.heap.size, 0, none⟩) (((unhide HB11).block w3.heap.size (by omega)).trans f6)).trans (unhide HY9 w6 (unhide H46)).1)
        have y5 : w12.cell? ⟨w1.heap.size, 0, none⟩ = some (.slice a1 F.length c1) := (f12.cell (a := ⟨w1.heap.size, 0, none⟩) (by show w1.heap.size < _; omega) (by show ¬ (w3'.heap.size ≤ w1.heap.size ∧ _); omega)).trans ((World.cell?_of_block (a := ⟨w1.heap.size, 0, none⟩) (((unhide HB11).block w1.heap.size (by omega)).trans f5)).trans (unhide HY5 w6 (unhide H46)).1)
        have z9 : w3.heap.size < w12.heap.size := by have := f12.size; omega
        have z5 : w1.heap.size < w12.heap.size := by have := f12.size; omega
        have q11 : Below w.heap.size w w11 := f1.trans ((unhide HB11).mono (by have := f1.size; omega))
        have HB12 : Hid (Below w.heap.size w w12) := q11.trans (f12.below q11.size (fun k hk e => by have e1 := e.1; omega))
        clear HSC p1 p3 f1 f2 f3 f4 f5 f6 f7 f12 y11 z11 q11
        go_wp2_with fail
        refine (unhide HSM4).mono ?_
        rintro e w13 ⟨rfl, b13⟩
        have HB13 := hide (bl_past (unhide HB12) b13)
        clear HSM4 b13 y9 y5 z9 z5
        go_wp2_with fail
        go_ret
        exact ⟨rfl, unhide HB13⟩
end Go.Proofs.Ytaldacjeeccbhaa
