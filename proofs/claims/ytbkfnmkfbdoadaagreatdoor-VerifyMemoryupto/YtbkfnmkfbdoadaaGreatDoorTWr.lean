/-
  The document's wrongHeight and height.
-/
import Derived.Test.YtbkfnmkfbdoadaaGreatDoorTMet
namespace Go.Proofs.YtbkfnmkfbdoadaaGreatDoor
open Go.RowKit
set_option linter.unusedVariables false
set_option linter.unusedSimpArgs false
/-- The heights below h, as wrongHeight has gone through them. -/
structure HtI (f : Fc) (op a : Int) (p h c : Nat) : Prop where
  le : c ≤ h
  two : 2 ≤ c ↔ ∃ h1 h2 : Nat, h1 < h2 ∧ h2 < h ∧ Mt f ((p : Int), (h1 : Int)) ∧ Mt f ((p : Int), (h2 : Int))
  one : 1 ≤ c ↔ ∃ h1 : Nat, h1 < h ∧ Mt f ((p : Int), (h1 : Int))
  ok : ∀ h1 : Nat, h1 < h → Mt f ((p : Int), (h1 : Int)) → ¬ WrH f op a p h1
theorem HtI.first (f : Fc) (op a : Int) (p : Nat) : HtI f op a p 0 0 := by
  refine ⟨Nat.le_refl _, ⟨fun h => absurd h (by omega), fun ⟨_, h2, _, hl, _⟩ => absurd hl (Nat.not_lt_zero h2)⟩, ⟨fun h => absurd h (by omega), fun ⟨h1, hl, _⟩ => absurd hl (Nat.not_lt_zero h1)⟩, fun h1 hl => absurd hl (Nat.not_lt_zero h1)⟩
theorem HtI.skip {f : Fc} {op a : Int} {p h c : Nat} (H : HtI f op a p h c) (hn : ¬ Mt f ((p : Int), (h : Int))) : HtI f op a p (h + 1) c := by
  have lt : ∀ k : Nat, k < h + 1 → Mt f ((p : Int), (k : Int)) → k < h := fun k hk hm => by
    rcases Nat.lt_or_ge k h with q | q
    · exact q
    · have : k = h := by omega
      subst this
      exact absurd hm hn
  refine ⟨by have := H.le; omega, ⟨fun q => ?_, fun ⟨h1, h2, q1, q2, m1, m2⟩ => ?_⟩, ⟨fun q => ?_, fun ⟨h1, q1, m1⟩ => ?_⟩, fun h1 q m => H.ok h1 (lt h1 q m) m⟩
  · obtain ⟨h1, h2, q1, q2, m⟩ := H.two.1 q
    exact ⟨h1, h2, q1, by omega, m⟩
  · exact H.two.2 ⟨h1, h2, q1, lt h2 q2 m2, m1, m2⟩
  · obtain ⟨h1, q1, m⟩ := H.one.1 q
    exact ⟨h1, by omega, m⟩
  · exact H.one.2 ⟨h1, lt h1 q1 m1, m1⟩
theorem HtI.step {f : Fc} {op a : Int} {p h c : Nat} (H : HtI f op a p h c) (hm : Mt f ((p : Int), (h : Int))) (hw : ¬ WrH f op a p h) : HtI f op a p (h + 1) (c + 1) := by
  refine ⟨by have := H.le; omega, ⟨fun q => ?_, fun ⟨h1, h2, q1, q2, m1, m2⟩ => ?_⟩, ⟨fun q => ⟨h, by omega, hm⟩, fun _ => by omega⟩, fun h1 q m => ?_⟩
  · obtain ⟨h1, q1, m1⟩ := H.one.1 (by omega)
    exact ⟨h1, h, q1, by omega, m1, hm⟩
  · have : 1 ≤ c := H.one.2 ⟨h1, by omega, m1⟩
    omega
  · by_cases e : h1 = h
    · subst e; exact hw
    · exact H.ok h1 (by omega) m
theorem HtI.last {f : Fc} (hf : OkF f) {op a : Int} {p c : Nat} (H : HtI f op a p 65 c) (hi : f.code[p]? = some (op, a)) : (decide ((1 : Int) < (c : Int)) = true) ↔ BadM f p := by
  rw [badM_iff hf hi, decide_eq_true_eq]
  constructor
  · intro q
    obtain ⟨h1, h2, q1, q2, m⟩ := H.two.1 (by omega)
    exact .inr ⟨h1, h2, q1, q2, m⟩
  · rintro (⟨h, hh, hm, hw⟩ | ⟨h1, h2, q1, q2, m⟩)
    · exact absurd hw (H.ok h hh hm)
    · have := H.two.2 ⟨h1, h2, q1, q2, m⟩
      omega
/-- No handler ahead of the j-th wants more. -/
def NoW (f : Fc) (p : Nat) (z : Int) (j : Nat) : Prop := ∀ (i : Nat) (k : Hd), i < j → f.hs[i]? = some k → hol k p = true → ¬ z < k.height
/-- What wrongHeight answers. -/
def WgP (f : Fc) (p : Nat) (w : World) (e : Ending) (w' : World) : Prop := ∃ b : Bool, e = .returned (.bool b) ∧ (b = true ↔ BadM f p) ∧ Below w.heap.size w w'
set_option maxRecDepth 100000 in
set_option maxHeartbeats 6400000 in
theorem wrong_any {w0 w : World} {f : Fc} {x : Fv} {g N p : Nat} {L : List Bool} {op a : Int} (hf : OkF f) (hx : FnV w0 f x) (hB : Below w0.heap.size w0 w) (Tb : TB w g N L) (hN : N = f.code.length * 65) (hM : TbM f L) (hi : f.code[p]? = some (op, a)) :
    Calls Tryz.prog 34 #[.agg #[.string x.name, .int .i64 x.params, .int .i64 x.locals, x.cv, x.hv], .slice (some ⟨g, 0, none⟩) N N, .int .i64 (p : Int)] w fun e w' => WgP f p w e w' := by
  obtain ⟨hok, hja⟩ := hf.ins p op a hi
  have htp := tp_bounds hok
  have hp : p < f.code.length := (List.getElem?_eq_some_iff.1 hi).1
  have hnm := hf.nm
  have hxw := hx.below hB (Nat.le_refl _)
  have HX := hide hxw
  have HOF := hide hf
  have HI := hide hi
  have HTb := hide Tb
  have HM := hide hM
  obtain ⟨cb, co, cc, ecv, _, _, lc, hc⟩ := Rx.elem zI hxw.2.2.2.1 hi
  have c0 := hc 0 _ rfl
  have c1 := hc 1 _ rfl
  rw [Nat.add_zero] at c0
  have HEf := hide (fun w => dEffect_any w op a (ok_I64 hok))
  obtain ⟨tkv, htk⟩ : ∃ t : Nat, Hid (tkI op a = (t : Int)) := ⟨(tkI op a).toNat, by unfold Hid; omega⟩
  obtain ⟨ptv, hpt⟩ : ∃ t : Nat, Hid (ptI op a = (t : Int)) := ⟨(ptI op a).toNat, by unfold Hid; omega⟩
  have HTP : Hid (tkv ≤ 66 ∧ ptv ≤ 2) := by have := unhide htk; have := unhide hpt; unfold Hid; omega
  rw [unhide htk, unhide hpt, hok] at HEf
  obtain ⟨NC, hNC⟩ : ∃ n, Hid (f.code.length = n) := ⟨_, rfl⟩
  obtain ⟨NH, hNH⟩ : ∃ n, Hid (f.hs.length = n) := ⟨_, rfl⟩
  have HNm : Hid (NC ≤ 2000 ∧ N = NC * 65 ∧ p < NC ∧ NH ≤ 1000) := by have := hf.hm; unfold Hid; rw [← unhide hNC, ← unhide hNH]; exact ⟨hnm, hN, hp, this⟩
  rw [unhide hNC] at ecv hp
  have p0 : (0 : Int) ≤ (p : Int) := by omega
  have p1 : (p : Int) < (NC : Int) := by omega
  obtain ⟨xn, xp, xl, xcv, hv⟩ := x
  simp only at ecv
  subst ecv
  have hshape := hxw.2.2.2.2
  simp only at hshape
  obtain ⟨_, ha2, hc2, ehv0, _, _, _⟩ := hshape
  have hhvv : Hid (hv = .slice ha2 NH hc2) := by unfold Hid; rw [← unhide hNH]; exact ehv0
  have HWR : Hid (∀ h : Nat, WrH f op a p h ↔ (h : Int) < (tkv : Int) ∨ 65 ≤ (h : Int) - (tkv : Int) + (ptv : Int) ∨ ∃ k ∈ f.hs, hol k p = true ∧ (h : Int) - (tkv : Int) < k.height) := fun h => by unfold WrH; rw [unhide htk, unhide hpt]
  obtain ⟨X1, eX1⟩ : ∃ X1, X1 = w.alloc (.cells #[.string xn, .int .i64 xp, .int .i64 xl, .slice (some ⟨cb, co, none⟩) NC cc, hv] 45) := ⟨_, rfl⟩
  have f1 : Hid (Below (w.heap.size + 1) (w.alloc (.cells #[.string xn, .int .i64 xp, .int .i64 xl, .slice (some ⟨cb, co, none⟩) NC cc, hv] 45)) X1) := by unfold Hid; rw [eX1]; exact Below.refl _ _
  obtain ⟨y0, y1, y2, y3, y4, yb, yl⟩ := box5 (unhide f1)
  have c0 := (yb.cell (p := ⟨cb, co + p * 2, none⟩) lc).trans c0
  have c1 := (yb.cell (p := ⟨cb, co + p * 2 + 1, none⟩) lc).trans c1
  have lcx : cb < X1.heap.size := by omega
  have HW1 : Hid (IntKind.i64.wrap ((p : Int) * 65) = (p : Int) * 65) := by unfold Hid; rw [IntKind.wrap_i64]; have := unhide HNm; omega
  clear hok hja htp hx hB Tb hM hN hi hxw hc ehv0 yb hf hnm
  go_enter Tryz.func34, Tryz.ntmps34
  go_wp2_with fail
  rw [← eX1]
  clear eX1
  refine (unhide HEf _).mono ?_
  rintro e W2 ⟨rfl, hb⟩
  have F2 : Hid (Below (w.heap.size + 1) (w.alloc (.cells #[.string xn, .int .i64 xp, .int .i64 xl, .slice (some ⟨cb, co, none⟩) NC cc, hv] 45)) W2) := (unhide f1).trans (hb.mono (by have := (unhide f1).size; simp at this; omega))
  clear hb y0 y1 y2 y3 y4 yl c0 c1 lcx
  go_wp2_with fail
  go_loopg [10, 11] 65 (fun gg t10 t11 wr => ∃ (h c : Nat), Hid (h + gg = 65) ∧ t11 = .int .i64 (h : Int) ∧ t10 = .int .i64 (c : Int) ∧ Hid (HtI f op a p h c) ∧ Hid (Below (w.heap.size + 1) (w.alloc (.cells #[.string xn, .int .i64 xp, .int .i64 xl, .slice (some ⟨cb, co, none⟩) NC cc, hv] 45)) wr))
  case atStart => exact ⟨0, 0, by unfold Hid; omega, rfl, rfl, HtI.first f op a p, F2⟩
  case round =>
    obtain ⟨h, c, hh, rfl, rfl, hH, hF⟩ := hrel
    clear F2
    by_cases hl2 : h < 65
    · have d1 : (h : Int) < 65 := by omega
      have hcb : c ≤ 65 := by have := (unhide hH).le; omega
      obtain ⟨J, hJ⟩ : ∃ J, Hid (p * 65 + h = J) := ⟨_, rfl⟩
      have hJN : Hid (J < N) := by have := unhide HNm; have := unhide hJ; unfold Hid; omega
      have q1 := unhide HW1
      have q2 : IntKind.i64.wrap ((p : Int) * 65 + (h : Int)) = (J : Int) := by rw [IntKind.wrap_i64]; have := unhide hJ; have := unhide HNm; omega
      have q3 : (0 : Int) ≤ (J : Int) := by omega
      have q4 : (J : Int) < (N : Int) := by have := unhide hJN; omega
      obtain ⟨y0, y1, y2, y3, y4, yb, yl⟩ := box5 (unhide hF)
      have hT1 : Hid (TB wr g N L) := (unhide HTb).fr (S := fun _ => False) (Fr.of_below yb) (fun e => e)
      have hJL : Hid (J < L.length) := by unfold Hid; rw [(unhide hT1).len]; exact unhide hJN
      obtain ⟨bo, hbo⟩ : ∃ bo, Hid (L.getD J false = bo) := ⟨_, rfl⟩
      have hat : Hid (L[J]? = some bo) := by unfold Hid; rw [← unhide hbo]; exact getD_at (unhide hJL)
      have hmt : Hid (bo = true ↔ Mt f ((p : Int), (h : Int))) := by
        have := (unhide HM).2 p h (by rw [unhide hNC]; exact (unhide HNm).2.2.1) hl2
        rw [unhide hJ, unhide hat] at this
        unfold Hid
        rw [← this]
        simp
      have cJ := (unhide hT1).at (unhide hat)
      have lg := (unhide hT1).lt
      have HYB := hide yb
      clear yb
      cases bo with
      | false =>
        have HS2 := hide ((unhide hH).skip (fun q => by have := (unhide hmt).2 q; cases this))
        go_wp2_with fail
        go_roundg (gk - 1)
        case measure => have := unhide hh; omega
        case rel => exact ⟨h + 1, c, by have := unhide hh; unfold Hid; omega, by go_num, rfl, HS2, hF⟩
      | true =>
        have hm : Hid (Mt f ((p : Int), (h : Int))) := (unhide hmt).1 rfl
        have HBAD : Hid (WrH f op a p h → BadM f p) := fun q => (badM_iff (unhide HOF) (unhide HI)).2 (.inl ⟨h, hl2, unhide hm, q⟩)
        have v1 : IntKind.i64.wrap ((h : Int) - (tkv : Int)) = (h : Int) - (tkv : Int) := by rw [IntKind.wrap_i64]; have := unhide HTP; omega
        have v2 : IntKind.i64.wrap ((h : Int) - (tkv : Int) + (ptv : Int)) = (h : Int) - (tkv : Int) + (ptv : Int) := by rw [IntKind.wrap_i64]; have := unhide HTP; omega
        by_cases e1 : (h : Int) < (tkv : Int)
        · have HB1 := hide (unhide HBAD ((unhide HWR h).2 (.inl e1)))
          go_wp2_with fail
          go_ret
          exact ⟨true, rfl, ⟨fun _ => unhide HB1, fun _ => rfl⟩, unhide HYB⟩
        by_cases e2 : 65 ≤ (h : Int) - (tkv : Int) + (ptv : Int)
        · have HB1 := hide (unhide HBAD ((unhide HWR h).2 (.inr (.inl e2))))
          go_wp2_with fail
          go_ret
          exact ⟨true, rfl, ⟨fun _ => unhide HB1, fun _ => rfl⟩, unhide HYB⟩
        have HE12 : Hid (¬ (h : Int) < (tkv : Int) ∧ ¬ 65 ≤ (h : Int) - (tkv : Int) + (ptv : Int)) := ⟨e1, e2⟩
        go_wp2_with fail
        obtain ⟨G, rfl⟩ : ∃ G, G = gk := ⟨_, rfl⟩
        clear cJ lg y0 y1 y2 y3 y4 yl
        go_loopg [12] NH (fun gg t12 wr => ∃ (j : Nat), Hid (j + gg = NH) ∧ t12 = .int .i64 (j : Int) ∧ Hid (NoW f p ((h : Int) - (tkv : Int)) j) ∧ Hid (Below (w.heap.size + 1) (w.alloc (.cells #[.string xn, .int .i64 xp, .int .i64 xl, .slice (some ⟨cb, co, none⟩) NC cc, hv] 45)) wr))
        case atStart => exact ⟨0, by unfold Hid; omega, rfl, fun i k hi => absurd hi (Nat.not_lt_zero i), hF⟩
        case round =>
          clear hF HYB hT1
          obtain ⟨j, hj, rfl, hQ, hF⟩ := hrel
          obtain ⟨y0, y1, y2, y3, y4, yb, yl⟩ := box5 (unhide hF)
          have HYB := hide yb
          by_cases hlt : j < NH
          · obtain ⟨k, hk⟩ : ∃ k, f.hs[j]? = some k := ⟨_, List.getElem?_eq_getElem (by rw [unhide hNH]; exact hlt)⟩
            obtain ⟨hb, ho, hcap, ehv, _, _, lh, hc⟩ := Rx.elem zH (unhide HX).2.2.2.2 hk
            have ehv' : hv = .slice (some ⟨hb, ho, none⟩) NH hcap := by rw [← unhide hNH]; exact ehv
            have kk := fun o v (hv : (enH k)[o]? = some v) => (yb.cell (p := ⟨hb, ho + j * 4 + o, none⟩) lh).trans (hc o v hv)
            have k0 := kk 0 _ rfl
            have k1 := kk 1 _ rfl
            have k2 := kk 2 _ rfl
            have k3 := kk 3 _ rfl
            rw [Nat.add_zero] at k0
            have lhr : hb < wr.heap.size := Nat.lt_of_lt_of_le lh yb.size
            rw [ehv'] at y4
            have j0 : (0 : Int) ≤ (j : Int) := by omega
            have j1 : (j : Int) < (NH : Int) := by omega
            have jb : j < 1000 := by have := (unhide HNm).2.2.2; omega
            have HH := hide (fun w => holds_any w k (p : Int))
            have HK := hide hk
            have HQ2 : Hid ((hol k p = true → ¬ (h : Int) - (tkv : Int) < k.height) → NoW f p ((h : Int) - (tkv : Int)) (j + 1)) := fun q i k' hi hk' => by
              by_cases e : i = j
              · subst e; rw [unhide HK] at hk'; cases hk'; exact q
              · exact unhide hQ i k' (by omega) hk'
            have HB3 : Hid (hol k p = true → (h : Int) - (tkv : Int) < k.height → BadM f p) := fun q1 q2 => unhide HBAD ((unhide HWR h).2 (.inr (.inr ⟨k, List.mem_of_getElem? (unhide HK), q1, q2⟩)))
            clear hc kk hk ehv ehv' yb
            cases hh2 : hol k (p : Int)
            · rw [hh2] at HH
              have HQ3 := hide (unhide HQ2 (fun q => by rw [hh2] at q; cases q))
              clear hh2
              go_wp2_with fail
              refine (unhide HH _).mono ?_
              rintro e w2 ⟨rfl, hb2⟩
              have HF2 : Hid (Below (w.heap.size + 1) (w.alloc (.cells #[.string xn, .int .i64 xp, .int .i64 xl, .slice (some ⟨cb, co, none⟩) NC cc, hv] 45)) w2) := (unhide hF).trans (hb2.mono (by have := (unhide hF).size; simp at this; omega))
              clear hb2
              go_wp2_with fail
              go_roundg (gk - 1)
              case measure => have := unhide hj; omega
              case rel => exact ⟨j + 1, by have := unhide hj; unfold Hid; omega, by go_num, HQ3, HF2⟩
            · rw [hh2] at HH
              have HB4 := hide (unhide HB3 hh2)
              obtain ⟨kf, kt, kg, kh⟩ := k
              simp only at k0 k1 k2 k3 HQ2 HB4
              clear hh2 HB3
              go_wp2_with fail
              refine (unhide HH _).mono ?_
              rintro e w2 ⟨rfl, hb2⟩
              have HF2 : Hid (Below (w.heap.size + 1) (w.alloc (.cells #[.string xn, .int .i64 xp, .int .i64 xl, .slice (some ⟨cb, co, none⟩) NC cc, hv] 45)) w2) := (unhide hF).trans (hb2.mono (by have := (unhide hF).size; simp at this; omega))
              have HYB2 : Hid (Below w.heap.size w w2) := (unhide HYB).trans (hb2.mono (unhide HYB).size)
              have y4 := (hb2.cell (p := ⟨w.heap.size, 4, none⟩) yl).trans y4
              have k3 := (hb2.cell (p := ⟨hb, ho + j * 4 + 3, none⟩) lhr).trans k3
              have yl2 := Nat.lt_of_lt_of_le yl hb2.size
              have lh2 := Nat.lt_of_lt_of_le lhr hb2.size
              clear hb2 k0 k1 k2 y0 y1 y2 y3
              by_cases e3 : (h : Int) - (tkv : Int) < kh
              · have HB5 := hide (unhide HB4 e3)
                go_wp2_with fail
                go_ret
                exact ⟨true, rfl, ⟨fun _ => unhide HB5, fun _ => rfl⟩, unhide HYB2⟩
              · have HQ3 := hide (unhide HQ2 (fun _ => by omega))
                go_wp2_with fail
                go_roundg (gk - 1)
                case measure => have := unhide hj; omega
                case rel => exact ⟨j + 1, by have := unhide hj; unfold Hid; omega, by go_num, HQ3, HF2⟩
          · have hjn : NH = j := by have := unhide hj; omega
            have HNW : Hid (¬ WrH f op a p h) := fun q => by
              rcases (unhide HWR h).1 q with q | q | ⟨k, hk, q1, q2⟩
              · have := (unhide HE12).1; omega
              · have := (unhide HE12).2; omega
              · obtain ⟨i, hi, rfl⟩ := List.getElem_of_mem hk
                exact unhide hQ i _ (by rw [← hjn, ← unhide hNH]; exact hi) (List.getElem?_eq_getElem hi) q1 q2
            have HS2 := hide ((unhide hH).step (unhide hm) (unhide HNW))
            subst hjn
            rw [unhide hhvv] at y4
            go_wp2_with fail
            go_roundg (G - 1)
            case measure => have := unhide hh; omega
            case rel => exact ⟨h + 1, c + 1, by have := unhide hh; unfold Hid; omega, by go_num, by go_num, HS2, hF⟩
    · have d1 : ¬ (h : Int) < 65 := by omega
      have h65 : h = 65 := by have := unhide hh; omega
      have HL : Hid ((decide ((1 : Int) < (c : Int)) = true) ↔ BadM f p) := by have q := unhide hH; rw [h65] at q; exact q.last (unhide HOF) (unhide HI)
      have HYB := hide (box5 (unhide hF)).2.2.2.2.2.1
      clear h65
      go_wp2_with fail
      go_ret
      exact ⟨_, rfl, unhide HL, unhide HYB⟩
/-- What height answers. -/
def HgR (f : Fc) (p : Nat) (z : Int) : Prop := (z = -1 ∧ ∀ ht, ¬ Mt f ((p : Int), ht)) ∨ (0 ≤ z ∧ z < 65 ∧ Mt f ((p : Int), z))
set_option maxRecDepth 100000 in
set_option maxHeartbeats 3200000 in
theorem height_any {w : World} {f : Fc} {g N p : Nat} {L : List Bool} (hf : OkF f) (Tb : TB w g N L) (hN : N = f.code.length * 65) (hM : TbM f L) (hp : p < f.code.length) :
    Calls Tryz.prog 35 #[.slice (some ⟨g, 0, none⟩) N N, .int .i64 (p : Int)] w fun e w' => ∃ z, e = .returned (.int .i64 z) ∧ HgR f p z ∧ w' = w := by
  have hnm := hf.nm
  have HOF := hide hf
  have HTb := hide Tb
  have HM := hide hM
  have HNm : Hid (f.code.length ≤ 2000 ∧ N = f.code.length * 65 ∧ p < f.code.length) := ⟨hnm, hN, hp⟩
  have lg := Tb.lt
  have q1 : IntKind.i64.wrap ((p : Int) * 65) = (p : Int) * 65 := by rw [IntKind.wrap_i64]; omega
  clear hf Tb hM hN hp hnm
  go_enter Tryz.func35, Tryz.ntmps35
  go_wp2_with fail
  go_loopg [5] 65 (fun gg t5 wr => ∃ (h : Nat), Hid (h + gg = 65) ∧ t5 = .int .i64 (h : Int) ∧ wr = w ∧ Hid (∀ k : Nat, k < h → ¬ Mt f ((p : Int), (k : Int))))
  case atStart => exact ⟨0, by unfold Hid; omega, rfl, rfl, fun k hk => absurd hk (Nat.not_lt_zero k)⟩
  case round =>
    obtain ⟨h, hh, rfl, hX, hQ⟩ := hrel
    obtain rfl := hX.symm
    clear hX
    by_cases hl2 : h < 65
    · have d1 : (h : Int) < 65 := by omega
      obtain ⟨J, hJ⟩ : ∃ J, Hid (p * 65 + h = J) := ⟨_, rfl⟩
      have hJN : Hid (J < N) := by have := unhide HNm; have := unhide hJ; unfold Hid; omega
      have q2 : IntKind.i64.wrap ((p : Int) * 65 + (h : Int)) = (J : Int) := by rw [IntKind.wrap_i64]; have := unhide hJ; have := unhide HNm; omega
      have q3 : (0 : Int) ≤ (J : Int) := by omega
      have q4 : (J : Int) < (N : Int) := by have := unhide hJN; omega
      have hJL : Hid (J < L.length) := by unfold Hid; rw [(unhide HTb).len]; exact unhide hJN
      obtain ⟨bo, hbo⟩ : ∃ bo, Hid (L.getD J false = bo) := ⟨_, rfl⟩
      have hat : Hid (L[J]? = some bo) := by unfold Hid; rw [← unhide hbo]; exact getD_at (unhide hJL)
      have hmt : Hid (bo = true ↔ Mt f ((p : Int), (h : Int))) := by
        have := (unhide HM).2 p h (unhide HNm).2.2 hl2
        rw [unhide hJ, unhide hat] at this
        unfold Hid
        rw [← this]
        simp
      have cJ := (unhide HTb).at (unhide hat)
      cases bo with
      | false =>
        have HQ2 : Hid (∀ k : Nat, k < h + 1 → ¬ Mt f ((p : Int), (k : Int))) := fun k hk => by
          by_cases e : k = h
          · subst e; intro q; have := (unhide hmt).2 q; cases this
          · exact unhide hQ k (by omega)
        go_wp2_with fail
        go_roundg (gk - 1)
        case measure => have := unhide hh; omega
        case rel => exact ⟨h + 1, by have := unhide hh; unfold Hid; omega, by go_num, rfl, HQ2⟩
      | true =>
        have HG : Hid (HgR f p (h : Int)) := .inr ⟨by omega, by omega, (unhide hmt).1 rfl⟩
        go_wp2_with fail
        go_ret
        exact ⟨_, rfl, unhide HG, rfl⟩
    · have d1 : ¬ (h : Int) < 65 := by omega
      have HG : Hid (HgR f p (-1)) := .inl ⟨rfl, fun ht hm => by
        have h1 := hm.bd (unhide HOF)
        have h2 := hm.h64 (unhide HOF)
        simp only at h1 h2
        have := unhide hQ ht.toNat (by have := unhide hh; omega)
        rw [Int.toNat_of_nonneg h1.2.2.1] at this
        exact this hm⟩
      go_wp2_with fail
      go_ret
      exact ⟨_, rfl, unhide HG, rfl⟩
end Go.Proofs.YtbkfnmkfbdoadaaGreatDoor
