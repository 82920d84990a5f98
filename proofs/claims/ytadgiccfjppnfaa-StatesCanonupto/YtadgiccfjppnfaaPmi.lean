/-
  What is inside an object is met.
-/
import Derived.Test.YtadgiccfjppnfaaPms
namespace Go.Proofs.Ytadgiccfjppnfaa
open Go.RowKit
set_option linter.unusedVariables false
set_option linter.unusedSimpArgs false
theorem recS_nil (nt : Nat) (O : List Ob) (m : List Nat × List Nat) (its : List (Int × Int)) : ∀ i, (recS nt O m [] its i).1 = metVs nt O m (its.take i)
  | 0 => by simp [recS, metVs]
  | i + 1 => by
    rw [recS_met, recS_nil nt O m its i]
    simp only [List.getElem?_nil]
    rcases hv : its[i]? with _ | v
    · rw [take_stayE hv]
      rfl
    · rw [take_pushE hv, metVs_push]
      rfl
/-- The keys that are met: a record's. -/
def keyL (o : Ob) : List Int := if o.kind = 7 then o.keys else []
theorem metO_rec (nt : Nat) (O : List Ob) (m : List Nat × List Nat) (o : Ob) : metO nt O m o = (recS nt O m (keyL o) o.its (max (keyL o).length o.its.length)).1 := by
  unfold metO keyL
  by_cases hk : o.kind = 7
  · rw [if_pos hk, if_pos hk]
  · rw [if_neg hk, if_neg hk, recS_nil, List.take_of_length_le (by simp)]
set_option maxRecDepth 100000 in
set_option maxHeartbeats 6400000 in
theorem meetInside_any {w0 : World} {T : List ByteArray} {O : List Ob} {X : List Obv} {ta oa : Option Addr} {tc oc : Nat} (hS : SIn w0 T O X ta oa tc oc) {sv : Array Value} (s0 : sv[0]? = some (.slice ta T.length tc)) (s1 : sv[1]? = some (.slice oa O.length oc)) {pb qb ob mb : Nat} {tv ov : Value} {w : World} {m : List Nat × List Nat} (h : PW w0 T O X sv pb qb ob mb tv ov w m) (hm : MOk T.length O.length m) (hnt : T.length ≤ 1048576) (hno : O.length ≤ 1048576) {v : Value} {o : Ob} (hA : ObA w0 v o) (hN : o.its.length ≤ 1048576) (hKn : o.keys.length ≤ 1048576) (hok : ∀ v ∈ o.its, OkV v) (hkk : ∀ k ∈ o.keys, OkV (4, k)) :
    Calls Try.prog 63 #[v, fM pb qb] w fun e w' => (∃ r, e = .returned r) ∧ MeP w0 T O X sv pb qb ob mb tv ov w (metO T.length O m o) w' := by
  obtain ⟨iv, kv, rfl, hI, hKr⟩ := hA
  obtain ⟨ia, ic, rfl, i1, i2⟩ := hI.shape
  obtain ⟨ka, kc, rfl, k1, k2⟩ := hKr.shape
  have HC : Hid (∀ (tv ov : Value) (W : World) (m : List Nat × List Nat), PW w0 T O X sv pb qb ob mb tv ov W m → MOk T.length O.length m → ∀ (v : Int × Int), OkV v → Calls Try.prog 60 #[.agg #[.int .i64 v.1, .int .i64 v.2], .pointer (some ⟨pb, 0, none⟩), .pointer (some ⟨qb, 0, none⟩)] W fun e w' => (∃ r, e = .returned r) ∧ MeP w0 T O X sv pb qb ob mb tv ov W (metV T.length O m v) w') := fun tv ov W m h1 h2 v h3 => meet_any hS s0 s1 h1 h2 hnt hno h3
  rw [metO_rec]
  -- the keys that are looked at
  obtain ⟨K, hKd⟩ : ∃ K, Hid (keyL o = K) := ⟨_, hide rfl⟩
  obtain ⟨qa, KL, qc, hqv, HQ, hq1, hq2, hq3, HOKK⟩ : ∃ qa KL qc, (if o.kind = 7 then Value.slice ka o.keys.length kc else .slice none 0 0) = .slice qa KL qc ∧ Hid (Rx w0 1 (.slice qa KL qc) KL (flt enL K)) ∧ Hid (K.length = KL) ∧ KL ≤ qc ∧ qc ≤ maxLen ∧ Hid (∀ k ∈ K, OkV (4, k)) := by
    rw [← unhide hKd]
    unfold keyL
    by_cases hk : o.kind = 7
    · rw [if_pos hk, if_pos hk]
      exact ⟨_, _, _, rfl, hKr, rfl, k1, k2, hkk⟩
    · rw [if_neg hk, if_neg hk]
      exact ⟨_, _, _, rfl, by simpa [flt] using hide (Rx.nil w0 1), rfl, Nat.le_refl _, Nat.zero_le _, by simp [Hid]⟩
  have hKL : KL ≤ 1048576 := by
    rw [← unhide hq1, ← unhide hKd]
    unfold keyL
    split
    · exact hKn
    · simp
  rw [unhide hKd, unhide hq1]
  have HKO := hide (fun W => keysOf_any W o.kind o.fn o.cap o.shut (.slice ia o.its.length ic) ka o.keys.length kc)
  rw [hqv] at HKO
  have HI := hide hI
  have HOKI := hide hok
  have HM := hide hm
  obtain ⟨IL, hIL⟩ : ∃ n, Hid (o.its.length = n) := ⟨_, hide rfl⟩
  obtain ⟨KX, hKX⟩ : ∃ n, Hid (o.keys.length = n) := ⟨_, hide rfl⟩
  rw [unhide hIL] at HI hN HKO i1
  rw [unhide hKX] at HKO k1 hKn
  rw [unhide hIL, unhide hKX]
  obtain ⟨okd, hokd⟩ : ∃ n, Hid (o.kind = n) := ⟨_, hide rfl⟩
  obtain ⟨ofn, hofn⟩ : ∃ n, Hid (o.fn = n) := ⟨_, hide rfl⟩
  obtain ⟨ocp, hocp⟩ : ∃ n, Hid (o.cap = n) := ⟨_, hide rfl⟩
  obtain ⟨osh, hosh⟩ : ∃ n, Hid (o.shut = n) := ⟨_, hide rfl⟩
  rw [unhide hokd, unhide hofn, unhide hocp, unhide hosh] at HKO ⊢
  obtain ⟨W1, hW1⟩ : ∃ W, Hid (w.alloc (.cells #[.int .i64 okd, .slice ia IL ic, .slice ka KX kc, .int .i64 ofn, .int .i64 ocp, .bool osh] 43) = W) := ⟨_, hide rfl⟩
  have f1 : Below w.heap.size w W1 := by rw [← unhide hW1]; exact (Below.refl _ w).alloc (Nat.le_refl _) _
  have hb1 : W1.heap[w.heap.size]? = some (.cells #[.int .i64 okd, .slice ia IL ic, .slice ka KX kc, .int .i64 ofn, .int .i64 ocp, .bool osh] 43) := by rw [← unhide hW1]; exact heap_alloc_new w _
  have h1 := h.below f1
  have hno1 : ¬ orb tv ov ob mb w.heap.size := fun e => by have := (h.or.in e).2; omega
  have HFIN : Hid (∀ W m', MeP w0 T O X sv pb qb ob mb tv ov W1 m' W → MeP w0 T O X sv pb qb ob mb tv ov w m' W) := fun W m' ⟨a, b, q1, q2⟩ => ⟨a, b, q1, (OrT.of_below f1).trans q2⟩
  have hbox : Hid (∀ W m', MeP w0 T O X sv pb qb ob mb tv ov W1 m' W → W.heap[w.heap.size]? = some (.cells #[.int .i64 okd, .slice ia IL ic, .slice ka KX kc, .int .i64 ofn, .int .i64 ocp, .bool osh] 43)) := fun W m' q => (q.keep (blk_cells hb1).2.2 hno1).trans hb1
  have hlow : Hid (∀ W m', MeP w0 T O X sv pb qb ob mb tv ov W1 m' W → Below w0.heap.size w0 W) := fun W m' h => by
    obtain ⟨_, _, h1, _⟩ := h
    exact h1.bl
  have HST : Hid (∀ W, Below W1.heap.size W1 W → MeP w0 T O X sv pb qb ob mb tv ov W1 m W) := fun W hb => MeP.start h1 hb
  unfold maxLen at i2 k2 hq3
  rcases Nat.lt_or_ge KL IL with hc | hc
  · obtain ⟨hmx, hmy⟩ : ((KL : Int) < (IL : Int)) ∧ ¬ ((IL : Int) ≤ (KL : Int)) := by constructor <;> omega
    rw [show max KL IL = IL by omega]
    clear h h1 hm hS s0 s1 hI hKr hok hkk hqv hb1 hno1 f1
    go_enter Try.func63, Try.ntmps63
    go_wp2_with fail
    rw [unhide hW1]
    refine (unhide HKO _).mono ?_
    rintro e w2 ⟨rfl, hb2⟩
    have HK0 := hide (unhide HST _ hb2)
    have bx := (blk_cells (unhide hbox _ _ (unhide HK0))).1 1
    have bl := (blk_cells (unhide hbox _ _ (unhide HK0))).2.2
    simp at bx
    clear hb2 HST
    go_wp2_with fail
    go_loopg [14] IL (fun g t14 wr => ∃ (i : Nat), Hid (i + g = IL) ∧ t14 = .int .i64 (i : Int) ∧ Hid (MeP w0 T O X sv pb qb ob mb tv ov W1 (recS T.length O m K o.its i).1 wr))
    case atStart => exact ⟨0, by unfold Hid; omega, by first | rfl | go_num, by simpa [recS] using HK0⟩
    case round =>
      clear HK0 bx bl
      obtain ⟨i, hi, rfl, hK⟩ := hrel
      by_cases hlt : i < IL
      · have i0' : (0 : Int) ≤ (i : Int) := by omega
        obtain ⟨M3, hM0⟩ : ∃ M, Hid ((recS T.length O m K o.its i).1 = M) := ⟨_, hide rfl⟩
        have hMk3 : Hid (MOk T.length O.length M3) := by rw [← unhide hM0]; exact hide (MOk.recs (unhide HM) _ _ _)
        rw [unhide hM0] at hK
        by_cases hik : i < KL
        · obtain ⟨ky, hky⟩ : ∃ p, K[i]? = some p := ⟨_, List.getElem?_eq_getElem (by rw [unhide hq1]; exact hik)⟩
          have hpk := unhide HOKK ky (List.mem_of_getElem? hky)
          obtain ⟨eb, eo, ecap, ee, -, -, hebl, hc0⟩ := Rx.elem zL (l := K) (by rw [unhide hq1]; exact unhide HQ) hky
          rw [unhide hq1] at ee
          cases ee
          have z0 := ((unhide hlow _ _ (unhide hK)).cell (p := ⟨eb, eo + i * 1 + 0, none⟩) hebl).trans (hc0 0 _ rfl)
          rw [Nat.add_zero, Nat.mul_one] at z0
          have i1' : (i : Int) < (KL : Int) := by omega
          obtain ⟨tv1, ov1, hP, hgo⟩ := (unhide hK).go
          obtain ⟨MK, hMKe⟩ : ∃ M, Hid (metV T.length O M3 (4, ky) = M) := ⟨_, hide rfl⟩
          have hMK : Hid (MOk T.length O.length MK) := by rw [← unhide hMKe]; exact hide (MOk.v (unhide hMk3) _)
          have hM3 : Hid (rkey T.length (recS T.length O m K o.its i).1 K[i]? = MK) := by
            rw [hky, unhide hM0, rkey_metV T.length O]
            exact hMKe
          have HCC : Hid (∀ W, Below wr.heap.size wr W → Calls Try.prog 60 #[.agg #[.int .i64 4, .int .i64 ky], .pointer (some ⟨pb, 0, none⟩), .pointer (some ⟨qb, 0, none⟩)] W fun e w' => (∃ r, e = .returned r) ∧ MeP w0 T O X sv pb qb ob mb tv ov W1 MK w') := fun W hW => by
            have := ((unhide HC _ _ _ _ (hP.below hW) (unhide hMk3) (4, ky) hpk).mono (fun e w' hh => (⟨hh.1, hgo _ _ _ hW hh.2⟩ : (∃ r, e = .returned r) ∧ MeP w0 T O X sv pb qb ob mb tv ov W1 (metV T.length O M3 (4, ky)) w')))
            rw [unhide hMKe] at this
            exact this
          clear hky hpk hP hgo hc0 hK
          go_wp2_with fail
          refine (keyValue_any _ _).mono ?_
          rintro e w3 ⟨rfl, hb3⟩
          have HC3 := hide (unhide HCC w3 hb3)
          clear hb3 HCC
          go_wp2_with fail
          refine (unhide HC3).mono ?_
          rintro e w2 ⟨⟨r, rfl⟩, hK2⟩
          have hK := hide hK2
          clear hK2 HC3 z0
          by_cases hit : i < IL
          · obtain ⟨p, hp⟩ : ∃ p, o.its[i]? = some p := ⟨_, List.getElem?_eq_getElem (by rw [unhide hIL]; exact hit)⟩
            have hpk := unhide HOKI p (List.mem_of_getElem? hp)
            obtain ⟨eb, eo, ecap, ee, -, -, hebl, hc0⟩ := Rx.elem zI (l := o.its) (by rw [unhide hIL]; exact unhide HI) hp
            rw [unhide hIL] at ee
            cases ee
            have z0 := ((unhide hlow _ _ (unhide hK)).cell (p := ⟨eb, eo + i * 2 + 0, none⟩) hebl).trans (hc0 0 _ rfl)
            have z1 := ((unhide hlow _ _ (unhide hK)).cell (p := ⟨eb, eo + i * 2 + 1, none⟩) hebl).trans (hc0 1 _ rfl)
            rw [Nat.add_zero] at z0
            have i2' : (i : Int) < (IL : Int) := by omega
            have bx := (blk_cells (unhide hbox _ _ (unhide hK))).1 1
            have bl := (blk_cells (unhide hbox _ _ (unhide hK))).2.2
            simp at bx
            obtain ⟨tv1, ov1, hP, hgo⟩ := (unhide hK).go
            have HCC := hide ((unhide HC _ _ _ _ hP (unhide hMK) p hpk).mono (fun e w' hh => (⟨hh.1, hgo _ _ _ (Below.refl _ _) hh.2⟩ : (∃ r, e = .returned r) ∧ MeP w0 T O X sv pb qb ob mb tv ov W1 (metV T.length O MK p) w')))
            have hpush : Hid ((recS T.length O m K o.its (i + 1)).1 = metV T.length O MK p) := by
              rw [recS_met, hp]
              show ritem _ _ _ (some p) = _
              rw [unhide hM3]
              exact hide rfl
            obtain ⟨p1, p2⟩ := p
            clear hp hpk hP hgo hc0 hK
            go_wp2_with fail
            refine (unhide HCC).mono ?_
            rintro e w3 ⟨⟨r, rfl⟩, hK2⟩
            have HK2 : Hid (MeP w0 T O X sv pb qb ob mb tv ov W1 (recS T.length O m K o.its (i + 1)).1 w3) := by rw [unhide hpush]; exact hide hK2
            clear hK2 HCC z0 z1 bx bl
            go_wp2_with fail
            go_roundg (gk - 1)
            case measure => have := unhide hi; omega
            case rel => exact ⟨i + 1, by have := unhide hi; unfold Hid; omega, by go_num, HK2⟩
          · exact absurd hlt hit
        · have hky : K[i]? = none := List.getElem?_eq_none (by rw [unhide hq1]; omega)
          obtain ⟨MK, hMKe⟩ : ∃ M, Hid (M3 = M) := ⟨_, hide rfl⟩
          have hM3 : Hid (rkey T.length (recS T.length O m K o.its i).1 K[i]? = MK) := by
            rw [hky, unhide hM0]
            exact hMKe
          have hMK : Hid (MOk T.length O.length MK) := by rw [← unhide hMKe]; exact hMk3
          rw [unhide hMKe] at hK
          clear hky
          by_cases hit : i < IL
          · obtain ⟨p, hp⟩ : ∃ p, o.its[i]? = some p := ⟨_, List.getElem?_eq_getElem (by rw [unhide hIL]; exact hit)⟩
            have hpk := unhide HOKI p (List.mem_of_getElem? hp)
            obtain ⟨eb, eo, ecap, ee, -, -, hebl, hc0⟩ := Rx.elem zI (l := o.its) (by rw [unhide hIL]; exact unhide HI) hp
            rw [unhide hIL] at ee
            cases ee
            have z0 := ((unhide hlow _ _ (unhide hK)).cell (p := ⟨eb, eo + i * 2 + 0, none⟩) hebl).trans (hc0 0 _ rfl)
            have z1 := ((unhide hlow _ _ (unhide hK)).cell (p := ⟨eb, eo + i * 2 + 1, none⟩) hebl).trans (hc0 1 _ rfl)
            rw [Nat.add_zero] at z0
            have i2' : (i : Int) < (IL : Int) := by omega
            have bx := (blk_cells (unhide hbox _ _ (unhide hK))).1 1
            have bl := (blk_cells (unhide hbox _ _ (unhide hK))).2.2
            simp at bx
            obtain ⟨tv1, ov1, hP, hgo⟩ := (unhide hK).go
            have HCC := hide ((unhide HC _ _ _ _ hP (unhide hMK) p hpk).mono (fun e w' hh => (⟨hh.1, hgo _ _ _ (Below.refl _ _) hh.2⟩ : (∃ r, e = .returned r) ∧ MeP w0 T O X sv pb qb ob mb tv ov W1 (metV T.length O MK p) w')))
            have hpush : Hid ((recS T.length O m K o.its (i + 1)).1 = metV T.length O MK p) := by
              rw [recS_met, hp]
              show ritem _ _ _ (some p) = _
              rw [unhide hM3]
              exact hide rfl
            obtain ⟨p1, p2⟩ := p
            clear hp hpk hP hgo hc0 hK
            go_wp2_with fail
            refine (unhide HCC).mono ?_
            rintro e w3 ⟨⟨r, rfl⟩, hK2⟩
            have HK2 : Hid (MeP w0 T O X sv pb qb ob mb tv ov W1 (recS T.length O m K o.its (i + 1)).1 w3) := by rw [unhide hpush]; exact hide hK2
            clear hK2 HCC z0 z1 bx bl
            go_wp2_with fail
            go_roundg (gk - 1)
            case measure => have := unhide hi; omega
            case rel => exact ⟨i + 1, by have := unhide hi; unfold Hid; omega, by go_num, HK2⟩
          · exact absurd hlt hit
      · have hiN : IL = i := by have := unhide hi; omega
        subst hiN
        go_wp2_with fail
        go_end0
        exact ⟨⟨_, rfl⟩, unhide HFIN _ _ (unhide hK)⟩
  · obtain ⟨hmx, hmy⟩ : ((IL : Int) ≤ (KL : Int)) ∧ ¬ ((KL : Int) < (IL : Int)) := by constructor <;> omega
    rw [show max KL IL = KL by omega]
    clear h h1 hm hS s0 s1 hI hKr hok hkk hqv hb1 hno1 f1
    go_enter Try.func63, Try.ntmps63
    go_wp2_with fail
    rw [unhide hW1]
    refine (unhide HKO _).mono ?_
    rintro e w2 ⟨rfl, hb2⟩
    have HK0 := hide (unhide HST _ hb2)
    have bx := (blk_cells (unhide hbox _ _ (unhide HK0))).1 1
    have bl := (blk_cells (unhide hbox _ _ (unhide HK0))).2.2
    simp at bx
    clear hb2 HST
    go_wp2_with fail
    go_loopg [14] KL (fun g t14 wr => ∃ (i : Nat), Hid (i + g = KL) ∧ t14 = .int .i64 (i : Int) ∧ Hid (MeP w0 T O X sv pb qb ob mb tv ov W1 (recS T.length O m K o.its i).1 wr))
    case atStart => exact ⟨0, by unfold Hid; omega, by first | rfl | go_num, by simpa [recS] using HK0⟩
    case round =>
      clear HK0 bx bl
      obtain ⟨i, hi, rfl, hK⟩ := hrel
      by_cases hlt : i < KL
      · have i0' : (0 : Int) ≤ (i : Int) := by omega
        obtain ⟨M3, hM0⟩ : ∃ M, Hid ((recS T.length O m K o.its i).1 = M) := ⟨_, hide rfl⟩
        have hMk3 : Hid (MOk T.length O.length M3) := by rw [← unhide hM0]; exact hide (MOk.recs (unhide HM) _ _ _)
        rw [unhide hM0] at hK
        by_cases hik : i < KL
        · obtain ⟨ky, hky⟩ : ∃ p, K[i]? = some p := ⟨_, List.getElem?_eq_getElem (by rw [unhide hq1]; exact hik)⟩
          have hpk := unhide HOKK ky (List.mem_of_getElem? hky)
          obtain ⟨eb, eo, ecap, ee, -, -, hebl, hc0⟩ := Rx.elem zL (l := K) (by rw [unhide hq1]; exact unhide HQ) hky
          rw [unhide hq1] at ee
          cases ee
          have z0 := ((unhide hlow _ _ (unhide hK)).cell (p := ⟨eb, eo + i * 1 + 0, none⟩) hebl).trans (hc0 0 _ rfl)
          rw [Nat.add_zero, Nat.mul_one] at z0
          have i1' : (i : Int) < (KL : Int) := by omega
          obtain ⟨tv1, ov1, hP, hgo⟩ := (unhide hK).go
          obtain ⟨MK, hMKe⟩ : ∃ M, Hid (metV T.length O M3 (4, ky) = M) := ⟨_, hide rfl⟩
          have hMK : Hid (MOk T.length O.length MK) := by rw [← unhide hMKe]; exact hide (MOk.v (unhide hMk3) _)
          have hM3 : Hid (rkey T.length (recS T.length O m K o.its i).1 K[i]? = MK) := by
            rw [hky, unhide hM0, rkey_metV T.length O]
            exact hMKe
          have HCC : Hid (∀ W, Below wr.heap.size wr W → Calls Try.prog 60 #[.agg #[.int .i64 4, .int .i64 ky], .pointer (some ⟨pb, 0, none⟩), .pointer (some ⟨qb, 0, none⟩)] W fun e w' => (∃ r, e = .returned r) ∧ MeP w0 T O X sv pb qb ob mb tv ov W1 MK w') := fun W hW => by
            have := ((unhide HC _ _ _ _ (hP.below hW) (unhide hMk3) (4, ky) hpk).mono (fun e w' hh => (⟨hh.1, hgo _ _ _ hW hh.2⟩ : (∃ r, e = .returned r) ∧ MeP w0 T O X sv pb qb ob mb tv ov W1 (metV T.length O M3 (4, ky)) w')))
            rw [unhide hMKe] at this
            exact this
          clear hky hpk hP hgo hc0 hK
          go_wp2_with fail
          refine (keyValue_any _ _).mono ?_
          rintro e w3 ⟨rfl, hb3⟩
          have HC3 := hide (unhide HCC w3 hb3)
          clear hb3 HCC
          go_wp2_with fail
          refine (unhide HC3).mono ?_
          rintro e w2 ⟨⟨r, rfl⟩, hK2⟩
          have hK := hide hK2
          clear hK2 HC3 z0
          by_cases hit : i < IL
          · obtain ⟨p, hp⟩ : ∃ p, o.its[i]? = some p := ⟨_, List.getElem?_eq_getElem (by rw [unhide hIL]; exact hit)⟩
            have hpk := unhide HOKI p (List.mem_of_getElem? hp)
            obtain ⟨eb, eo, ecap, ee, -, -, hebl, hc0⟩ := Rx.elem zI (l := o.its) (by rw [unhide hIL]; exact unhide HI) hp
            rw [unhide hIL] at ee
            cases ee
            have z0 := ((unhide hlow _ _ (unhide hK)).cell (p := ⟨eb, eo + i * 2 + 0, none⟩) hebl).trans (hc0 0 _ rfl)
            have z1 := ((unhide hlow _ _ (unhide hK)).cell (p := ⟨eb, eo + i * 2 + 1, none⟩) hebl).trans (hc0 1 _ rfl)
            rw [Nat.add_zero] at z0
            have i2' : (i : Int) < (IL : Int) := by omega
            have bx := (blk_cells (unhide hbox _ _ (unhide hK))).1 1
            have bl := (blk_cells (unhide hbox _ _ (unhide hK))).2.2
            simp at bx
            obtain ⟨tv1, ov1, hP, hgo⟩ := (unhide hK).go
            have HCC := hide ((unhide HC _ _ _ _ hP (unhide hMK) p hpk).mono (fun e w' hh => (⟨hh.1, hgo _ _ _ (Below.refl _ _) hh.2⟩ : (∃ r, e = .returned r) ∧ MeP w0 T O X sv pb qb ob mb tv ov W1 (metV T.length O MK p) w')))
            have hpush : Hid ((recS T.length O m K o.its (i + 1)).1 = metV T.length O MK p) := by
              rw [recS_met, hp]
              show ritem _ _ _ (some p) = _
              rw [unhide hM3]
              exact hide rfl
            obtain ⟨p1, p2⟩ := p
            clear hp hpk hP hgo hc0 hK
            go_wp2_with fail
            refine (unhide HCC).mono ?_
            rintro e w3 ⟨⟨r, rfl⟩, hK2⟩
            have HK2 : Hid (MeP w0 T O X sv pb qb ob mb tv ov W1 (recS T.length O m K o.its (i + 1)).1 w3) := by rw [unhide hpush]; exact hide hK2
            clear hK2 HCC z0 z1 bx bl
            go_wp2_with fail
            go_roundg (gk - 1)
            case measure => have := unhide hi; omega
            case rel => exact ⟨i + 1, by have := unhide hi; unfold Hid; omega, by go_num, HK2⟩
          · have hp : o.its[i]? = none := List.getElem?_eq_none (by rw [unhide hIL]; omega)
            have HK2 : Hid (MeP w0 T O X sv pb qb ob mb tv ov W1 (recS T.length O m K o.its (i + 1)).1 w2) := by
              rw [recS_met, hp]
              show Hid (MeP w0 T O X sv pb qb ob mb tv ov W1 (ritem _ _ _ none) w2)
              rw [unhide hM3]
              exact hK
            have bx := (blk_cells (unhide hbox _ _ (unhide hK))).1 1
            have bl := (blk_cells (unhide hbox _ _ (unhide hK))).2.2
            simp at bx
            clear hp hK
            go_wp2_with fail
            go_roundg (gk - 1)
            case measure => have := unhide hi; omega
            case rel => exact ⟨i + 1, by have := unhide hi; unfold Hid; omega, by go_num, HK2⟩
        · exact absurd hlt hik
      · have hiN : KL = i := by have := unhide hi; omega
        subst hiN
        go_wp2_with fail
        go_end0
        exact ⟨⟨_, rfl⟩, unhide HFIN _ _ (unhide hK)⟩
end Go.Proofs.Ytadgiccfjppnfaa
