/-
  Slots are met; keys.
-/
import Derived.Test.YtadgiccfjppnfaaPmt
import Derived.Test.YtadgiccfjppnfaaPmo
namespace Go.Proofs.Ytadgiccfjppnfaa
open Go.RowKit
set_option linter.unusedVariables false
set_option linter.unusedSimpArgs false
theorem meet_any {w0 : World} {T : List ByteArray} {O : List Ob} {X : List Obv} {ta oa : Option Addr} {tc oc : Nat} (hS : SIn w0 T O X ta oa tc oc) {sv : Array Value} (s0 : sv[0]? = some (.slice ta T.length tc)) (s1 : sv[1]? = some (.slice oa O.length oc)) {pb qb ob mb : Nat} {tv ov : Value} {w : World} {m : List Nat × List Nat} (h : PW w0 T O X sv pb qb ob mb tv ov w m) (hm : MOk T.length O.length m) (hnt : T.length ≤ 1048576) (hno : O.length ≤ 1048576) {k n : Int} (hv : OkV (k, n)) :
    Calls Try.prog 60 #[.agg #[.int .i64 k, .int .i64 n], .pointer (some ⟨pb, 0, none⟩), .pointer (some ⟨qb, 0, none⟩)] w fun e w' => (∃ r, e = .returned r) ∧ MeP w0 T O X sv pb qb ob mb tv ov w (metV T.length O m (k, n)) w' := by
  cases hb : nmB T.length O (k, n) with
  | false => exact meet_no hS s0 s1 h hm hnt hno hv hb
  | true =>
    cases hf : mpF O m (k, n) with
    | some c => exact meet_old hS s0 s1 h hm hnt hno hv hb (by rw [hf]; rfl)
    | none =>
      rcases met_new hb hf with ⟨h4, i, e, h1, h2, h3⟩ | ⟨h4, i, e, h1, h2, h3, h5⟩
      · exact meet_text hS s0 s1 h hm hnt hno hv h4 e h1 h2 h3 hb hf
      · exact meet_obj hS s0 s1 h hm hnt hno hv h4 e h1 h2 h3 h5 hb hf
theorem MeP.start {w0 : World} {T : List ByteArray} {O : List Ob} {X : List Obv} {sv : Array Value} {pb qb ob mb : Nat} {tv ov : Value} {w w' : World} {m : List Nat × List Nat} (h : PW w0 T O X sv pb qb ob mb tv ov w m) (f : Below w.heap.size w w') : MeP w0 T O X sv pb qb ob mb tv ov w m w' :=
  ⟨tv, ov, h.below f, OrT.of_below f⟩
theorem MeP.go {w0 : World} {T : List ByteArray} {O : List Ob} {X : List Obv} {sv : Array Value} {pb qb ob mb : Nat} {tv ov : Value} {w wr : World} {m : List Nat × List Nat} (h : MeP w0 T O X sv pb qb ob mb tv ov w m wr) :
    ∃ tv1 ov1, PW w0 T O X sv pb qb ob mb tv1 ov1 wr m ∧ ∀ (W W2 : World) (m2 : List Nat × List Nat), Below wr.heap.size wr W → MeP w0 T O X sv pb qb ob mb tv1 ov1 W m2 W2 → MeP w0 T O X sv pb qb ob mb tv ov w m2 W2 := by
  obtain ⟨tv1, ov1, h1, h2⟩ := h
  refine ⟨tv1, ov1, h1, fun W W2 m2 hb ⟨tv2, ov2, h3, h4⟩ => ⟨tv2, ov2, h3, (h2.trans (OrT.of_below hb)).trans h4⟩⟩
theorem MeP.past {w0 : World} {T : List ByteArray} {O : List Ob} {X : List Obv} {sv : Array Value} {pb qb ob mb : Nat} {tv ov : Value} {w wr W : World} {m : List Nat × List Nat} (h : MeP w0 T O X sv pb qb ob mb tv ov w m wr) (f : Below wr.heap.size wr W) : MeP w0 T O X sv pb qb ob mb tv ov w m W := by
  obtain ⟨tv1, ov1, h1, h2⟩ := h
  exact ⟨tv1, ov1, h1.below f, h2.trans (OrT.of_below f)⟩
/-- A block that the order has not stays as it was. -/
theorem MeP.keep {w0 : World} {T : List ByteArray} {O : List Ob} {X : List Obv} {sv : Array Value} {pb qb ob mb : Nat} {tv ov : Value} {w wr : World} {m : List Nat × List Nat} (h : MeP w0 T O X sv pb qb ob mb tv ov w m wr) {b : Nat} (hb : b < w.heap.size) (hn : ¬ orb tv ov ob mb b) : wr.heap[b]? = w.heap[b]? := by
  obtain ⟨tv1, ov1, h1, h2⟩ := h
  exact h2.1.block b hb hn
abbrev fM (pb qb : Nat) : Value := .func (.func 60) #[] #[.pointer (some ⟨pb, 0, none⟩), .pointer (some ⟨qb, 0, none⟩)]
set_option maxRecDepth 100000 in
set_option maxHeartbeats 3200000 in
theorem keyValue_any (w : World) (n : Int) : Calls Try.prog 79 #[.int .i64 n] w fun e w' => e = .returned (.agg #[.int .i64 4, .int .i64 n]) ∧ Below w.heap.size w w' := by
  have hb : ∀ o, Below w.heap.size w (w.alloc o) := fun o => (Below.refl _ w).alloc (Nat.le_refl _) o
  go_enter Try.func79, Try.ntmps79
  go_wp2_with fail
  refine bodyPost_ret (v := .agg #[.int .i64 4, .int .i64 n]) ?_ rfl ?_
  · rw [results_cell_one rfl]
    go_simp
  · exact ⟨rfl, hb _⟩
set_option maxRecDepth 100000 in
set_option maxHeartbeats 3200000 in
theorem keysOf_any (w : World) (kd fn cap : Int) (sh : Bool) (iv : Value) (ka : Option Addr) (kl kc : Nat) :
    Calls Try.prog 78 #[.agg #[.int .i64 kd, iv, .slice ka kl kc, .int .i64 fn, .int .i64 cap, .bool sh]] w fun e w' => e = .returned (if kd = 7 then .slice ka kl kc else .slice none 0 0) ∧ Below w.heap.size w w' := by
  have hb : Hid (∀ o, Below w.heap.size w (w.alloc o)) := fun o => (Below.refl _ w).alloc (Nat.le_refl _) o
  by_cases hk : kd = 7
  · subst hk
    go_enter Try.func78, Try.ntmps78
    go_wp2_with fail
    go_ret
    exact ⟨rfl, unhide hb _⟩
  · have hk2 : ((kd : Int) == 7) = false := by simpa using hk
    rw [if_neg hk]
    clear hk
    go_enter Try.func78, Try.ntmps78
    go_wp2_with fail
    go_ret
    exact ⟨rfl, unhide hb _⟩
set_option maxRecDepth 100000 in
set_option maxHeartbeats 6400000 in
theorem meetSlots_any {w0 : World} {T : List ByteArray} {O : List Ob} {X : List Obv} {ta oa : Option Addr} {tc oc : Nat} (hS : SIn w0 T O X ta oa tc oc) {sv : Array Value} (s0 : sv[0]? = some (.slice ta T.length tc)) (s1 : sv[1]? = some (.slice oa O.length oc)) {pb qb ob mb : Nat} {tv ov : Value} {w : World} {m : List Nat × List Nat} (h : PW w0 T O X sv pb qb ob mb tv ov w m) (hm : MOk T.length O.length m) (hnt : T.length ≤ 1048576) (hno : O.length ≤ 1048576) {bv : Value} {bs : List (List Fm)} (hB : BsV w0 bv bs) (hbl : bs.length ≤ 1048576) (hbb : ∀ b ∈ bs, b.length ≤ 1048576 ∧ ∀ f ∈ b, f.sl.length ≤ 1048576) (hok : ∀ b ∈ bs, ∀ f ∈ b, ∀ v ∈ f.sl, OkV v) :
    Calls Try.prog 62 #[bv, fM pb qb] w fun e w' => (∃ r, e = .returned r) ∧ MeP w0 T O X sv pb qb ob mb tv ov w (metF T.length O m bs) w' := by
  have HFb := hide hB
  have HOK := hide hok
  have HBB := hide hbb
  have HC : Hid (∀ (tv ov : Value) (W : World) (m : List Nat × List Nat), PW w0 T O X sv pb qb ob mb tv ov W m → MOk T.length O.length m → ∀ (v : Int × Int), OkV v → Calls Try.prog 60 #[.agg #[.int .i64 v.1, .int .i64 v.2], .pointer (some ⟨pb, 0, none⟩), .pointer (some ⟨qb, 0, none⟩)] W fun e w' => (∃ r, e = .returned r) ∧ MeP w0 T O X sv pb qb ob mb tv ov W (metV T.length O m v) w') := fun tv ov W m h1 h2 v h3 => meet_any hS s0 s1 h1 h2 hnt hno h3
  have HM := hide hm
  have HK0 : Hid (MeP w0 T O X sv pb qb ob mb tv ov w m w) := MeP.start h (Below.refl _ _)
  obtain ⟨ba, bc, rfl, b1, b2⟩ := hB.shape
  obtain ⟨NT, hNT⟩ : ∃ n, Hid (T.length = n) := ⟨_, hide rfl⟩
  obtain ⟨NB, hNB⟩ : ∃ n, Hid (bs.length = n) := ⟨_, hide rfl⟩
  rw [unhide hNB] at HFb b1 hbl ⊢
  unfold maxLen at b2
  clear hB hok hbb h hm hS s0 s1
  go_enter Try.func62, Try.ntmps62
  go_wp2_with fail
  go_loopg [10] NB (fun g t10 wr => ∃ (j : Nat), Hid (j + g = NB) ∧ t10 = .int .i64 (j : Int) ∧ Hid (MeP w0 T O X sv pb qb ob mb tv ov w (metF T.length O m (bs.take j)) wr))
  case atStart => exact ⟨0, by unfold Hid; omega, rfl, by simpa [metF] using HK0⟩
  case round =>
    obtain ⟨j, hj, rfl, hK⟩ := hrel
    clear HK0
    by_cases hlt : j < NB
    · obtain ⟨fb, hfb⟩ : ∃ f, bs[j]? = some f := ⟨_, List.getElem?_eq_getElem (by rw [unhide hNB]; exact hlt)⟩
      obtain ⟨hfbl, hfbs⟩ := unhide HBB fb (List.mem_of_getElem? hfb)
      obtain ⟨FL, hFL⟩ : ∃ n, Hid (fb.length = n) := ⟨_, hide rfl⟩
      rw [unhide hFL] at hfbl
      have HFS := hide hfbs
      have HFB := hide hfb
      obtain ⟨gO, hgO⟩ : ∃ g, Hid (gk = g) := ⟨_, hide rfl⟩
      obtain ⟨M1, hM1⟩ : ∃ M, Hid (metF T.length O m (bs.take j) = M) := ⟨_, hide rfl⟩
      rw [unhide hM1] at hK
      have hMk : Hid (MOk T.length O.length M1) := by rw [← unhide hM1]; exact hide (MOk.fs _ (unhide HM))
      have j0 : (0 : Int) ≤ (j : Int) := by omega
      have j1 : (j : Int) < (NB : Int) := by omega
      have hlow : Hid (∀ W m', MeP w0 T O X sv pb qb ob mb tv ov w m' W → Below w0.heap.size w0 W) := fun W m' h => by
        obtain ⟨_, _, h1, _⟩ := h
        exact h1.bl
      obtain ⟨ib, io, ja, jc, ei, hib, ki0, hFs, hjl, hjm⟩ := (unhide HFb).one hfb
      cases ei
      rw [unhide hFL] at ki0 hjl hFs
      unfold maxLen at hjm
      have HFs := hide hFs
      have HIB := hide hib
      have KI0 := hide ki0
      have ki := ((unhide hlow _ _ (unhide hK)).cell (p := ⟨ib, io + j, none⟩) hib).trans ki0
      clear hfb hfbs hFs ki0 hib
      go_wp2_with fail
      go_loopg [19] FL (fun g t19 wr => ∃ (k : Nat), Hid (k + g = FL) ∧ t19 = .int .i64 (k : Int) ∧ Hid (MeP w0 T O X sv pb qb ob mb tv ov w (metM T.length O M1 (fb.take k)) wr))
      case atStart => exact ⟨0, by unfold Hid; omega, rfl, by simpa [metM] using hK⟩
      case round =>
        clear hK ki
        obtain ⟨k, hk, rfl, hK⟩ := hrel
        have ki := ((unhide hlow _ _ (unhide hK)).cell (p := ⟨ib, io + j, none⟩) (unhide HIB)).trans (unhide KI0)
        by_cases hltk : k < FL
        · obtain ⟨f, hf⟩ : ∃ f, fb[k]? = some f := ⟨_, List.getElem?_eq_getElem (by rw [unhide hFL]; exact hltk)⟩
          have hsb := unhide HFS f (List.mem_of_getElem? hf)
          have HOKf := hide (fun v (hv : v ∈ f.sl) => unhide HOK fb (List.mem_of_getElem? (unhide HFB)) f (List.mem_of_getElem? hf) v hv)
          obtain ⟨sb, so, sa, sc, es, hsbl, -, -, k20, hx, hsl, hsm⟩ := (unhide HFs).three hf
          cases es
          have k2 := ((unhide hlow _ _ (unhide hK)).cell (p := ⟨sb, so + k * 3 + 2, none⟩) hsbl).trans k20
          have k0' : (0 : Int) ≤ (k : Int) := by omega
          have k1' : (k : Int) < (FL : Int) := by omega
          obtain ⟨SL, hSL⟩ : ∃ n, Hid (f.sl.length = n) := ⟨_, hide rfl⟩
          rw [unhide hSL] at hsb k2 hsl
          obtain ⟨gP, hgP⟩ : ∃ g, Hid (gk = g) := ⟨_, hide rfl⟩
          obtain ⟨M2, hM2⟩ : ∃ M, Hid (metM T.length O M1 (fb.take k) = M) := ⟨_, hide rfl⟩
          rw [unhide hM2] at hK
          have hMk2 : Hid (MOk T.length O.length M2) := by rw [← unhide hM2]; exact hide (MOk.ms _ (unhide hMk))
          have HX := hide hx
          have HF := hide hf
          unfold maxLen at hsm
          clear hx hf k20
          go_wp2_with fail
          go_loopg [32] SL (fun g t32 wr => ∃ (i : Nat), Hid (i + g = SL) ∧ t32 = .int .i64 (i : Int) ∧ Hid (MeP w0 T O X sv pb qb ob mb tv ov w (metVs T.length O M2 (f.sl.take i)) wr))
          case atStart => exact ⟨0, by unfold Hid; omega, rfl, by simpa [metVs] using hK⟩
          case round =>
            clear hK ki k2
            obtain ⟨i, hi, rfl, hK⟩ := hrel
            by_cases hlti : i < SL
            · obtain ⟨p, hp⟩ : ∃ p, f.sl[i]? = some p := ⟨_, List.getElem?_eq_getElem (by rw [unhide hSL]; exact hlti)⟩
              have hpk := unhide HOKf p (List.mem_of_getElem? hp)
              obtain ⟨eb, eo, ecap, ee, -, -, hebl, hc0⟩ := Rx.elem zI (unhide HX) hp
              rw [unhide hSL] at ee
              cases ee
              have z0 := ((unhide hlow _ _ (unhide hK)).cell (p := ⟨eb, eo + i * 2 + 0, none⟩) hebl).trans (hc0 0 _ rfl)
              have z1 := ((unhide hlow _ _ (unhide hK)).cell (p := ⟨eb, eo + i * 2 + 1, none⟩) hebl).trans (hc0 1 _ rfl)
              rw [Nat.add_zero] at z0
              have i0' : (0 : Int) ≤ (i : Int) := by omega
              have i1' : (i : Int) < (SL : Int) := by omega
              obtain ⟨tv1, ov1, hP, hgo⟩ := (unhide hK).go
              have hal : Below wr.heap.size wr (wr.alloc (.cells #[.int .i64 p.1, .int .i64 p.2] 40)) := (Below.refl _ wr).alloc (Nat.le_refl _) _
              obtain ⟨M3, hM3⟩ : ∃ M, Hid (metVs T.length O M2 (f.sl.take i) = M) := ⟨_, hide rfl⟩
              rw [unhide hM3] at hP
              have hMk3 : Hid (MOk T.length O.length M3) := by rw [← unhide hM3]; exact hide (MOk.vs _ (unhide hMk2))
              have HCC := hide ((unhide HC _ _ _ _ (hP.below hal) (unhide hMk3) p hpk).mono (fun e w' hh => (⟨hh.1, hgo _ _ _ hal hh.2⟩ : (∃ r, e = .returned r) ∧ MeP w0 T O X sv pb qb ob mb tv ov w (metV T.length O M3 p) w')))
              have hpush : Hid (metVs T.length O M2 (f.sl.take (i + 1)) = metV T.length O M3 p) := by
                rw [take_push hp, metVs_push, unhide hM3]
                exact hide rfl
              obtain ⟨p1, p2⟩ := p
              clear hp hpk hP hgo hc0 hK hal
              go_wp2_with fail
              refine (unhide HCC).mono ?_
              rintro e w1 ⟨⟨r, rfl⟩, hK2⟩
              have HK2 : Hid (MeP w0 T O X sv pb qb ob mb tv ov w (metVs T.length O M2 (f.sl.take (i + 1))) w1) := by rw [unhide hpush]; exact hide hK2
              clear hK2 HCC z0 z1
              go_wp2_with fail
              go_roundg (gk - 1)
              case measure => have := unhide hi; omega
              case rel => exact ⟨i + 1, by have := unhide hi; unfold Hid; omega, by go_num, HK2⟩
            · have hiN : SL = i := by have := unhide hi; omega
              subst hiN
              have HK2 : Hid (MeP w0 T O X sv pb qb ob mb tv ov w (metM T.length O M1 (fb.take (k + 1))) wr) := by
                rw [take_push (unhide HF), metM_push, unhide hM2]
                rw [List.take_of_length_le (by rw [unhide hSL]; exact Nat.le_refl _)] at hK
                exact hK
              clear hK
              go_wp2_with fail
              go_roundg (gP - 1)
              case measure => have := unhide hk; have := unhide hgP; omega
              case rel => exact ⟨k + 1, by have := unhide hk; have := unhide hgP; unfold Hid; omega, by go_num, HK2⟩
        · have hkF : FL = k := by have := unhide hk; omega
          subst hkF
          have HK2 : Hid (MeP w0 T O X sv pb qb ob mb tv ov w (metF T.length O m (bs.take (j + 1))) wr) := by
            rw [take_push (unhide HFB), metF_push, unhide hM1]
            rw [List.take_of_length_le (by rw [unhide hFL]; exact Nat.le_refl _)] at hK
            exact hK
          clear hK
          go_wp2_with fail
          go_roundg (gO - 1)
          case measure => have := unhide hj; have := unhide hgO; omega
          case rel => exact ⟨j + 1, by have := unhide hj; have := unhide hgO; unfold Hid; omega, by go_num, HK2⟩
    · have hjN : NB = j := by have := unhide hj; omega
      subst hjN
      rw [List.take_of_length_le (by rw [unhide hNB]; exact Nat.le_refl _)] at hK
      go_wp2_with fail
      go_end0
      exact ⟨⟨_, rfl⟩, unhide hK⟩
end Go.Proofs.Ytadgiccfjppnfaa
