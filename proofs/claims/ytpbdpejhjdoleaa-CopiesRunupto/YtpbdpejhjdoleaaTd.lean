/-
  The document's operands, each as it is known.
-/
import Derived.Test.YtpbdpejhjdoleaaKn
import Derived.Test.YtpbdpejhjdoleaaRg13
namespace Go.Proofs.Ytpbdpejhjdoleaa
open Go.RowKit
set_option linter.unusedVariables false
set_option linter.unusedSimpArgs false
theorem new_cellsB {b : Nat} (w : World) (arr : Array Value) (e : TypeId) (hb : w.heap.size = b) : ∀ j z, arr.toList[j]? = some z → (w.alloc (.cells arr e)).cell? ((⟨b, 0, none⟩ : Addr).add j) = some z := by
  subst hb
  exact new_cells w arr e
theorem Gx.on {T : Type} {w wr W : World} {sz : Nat} {en : T → List Value} {l : List T} {v : Value} (h : Gx w sz en l v wr) (b : Below wr.heap.size wr W) : Gx w sz en l v W :=
  ⟨h.1.fr (Fr.of_below (S := fun _ => False) b) (fun _ _ e => e), bl_past h.2.1 b, h.2.2⟩
set_option maxRecDepth 100000 in
set_option maxHeartbeats 12800000 in
/-- Operands as they are known behind a list. -/
theorem turnedR_any {w : World} {D D2 : Nat → Prop} {out : List RIn} {f : Op → Wr} {ov av : Value} {l : List Op} (ho : InsV D2 w out ov) (hw : Lw out f) (hM : out.length ≤ 1048576) (ha : OpV D w l av) (hN : l.length ≤ 1073741824) :
    Calls Try.prog 35 #[ov, av] w fun e w' => ∃ v, e = .returned v ∧ Gx w 2 enO (l.map (srcF f)) v w' := by
  obtain ⟨a, acap, rfl, ha1, ha2⟩ := ha.1.shape
  have HA := hide ha
  have HKN : Hid (∀ (W : World) (r : Int), Below w.heap.size w W → Calls Try.prog 48 #[ov, .int .i64 r] W fun e w' => e = .returned (.tuple #[opV (mvO (knF f r)), .bool (knF f r).isSome]) ∧ Below W.heap.size W w') := fun W r hW => known_any (InsV.mv.bel ho hW) hw hM r
  obtain ⟨oa, oc, rfl, ho1, ho2⟩ := NV.shape ho
  have HSR : Hid (∀ o, srcF f o = if o.k = 0 then (knF f o.n).getD o else o) := fun o => hw.src o
  unfold maxLen at ha2
  clear ha ho hw
  obtain ⟨L, hL⟩ : ∃ L, Hid (l.length = L) := ⟨_, hide rfl⟩
  obtain ⟨M, hML⟩ : ∃ M, Hid (out.length = M) := ⟨_, hide rfl⟩
  rw [unhide hL] at ha1 hN ⊢
  rw [unhide hML] at HKN ⊢
  clear hM ho1 ho2
  go_enter Try.func35, Try.ntmps35
  go_wp2_with fail
  go_loopg [5, 6] L (fun gg t2 t3 wr => ∃ (i : Nat) (cv : Value), Hid (i + gg = L) ∧ t2 = cv ∧ t3 = .int .i64 (i : Int) ∧ Hid (Gx w 2 enO ((l.take i).map (srcF f)) cv wr))
  case atStart => exact ⟨0, _, by unfold Hid; omega, rfl, rfl, ⟨by simpa [flt] using Ro.nil w 2, Below.refl _ _, fun k e => by cases e⟩⟩
  case round =>
    obtain ⟨i, cv, hi, rfl, rfl, hG⟩ := hrel
    by_cases hlt : i < L
    case neg =>
      have hiL : i = L := by have := unhide hi; omega
      subst hiL
      rw [List.take_of_length_le (by rw [unhide hL]; exact Nat.le_refl _)] at hG
      have i1 : ¬ (i : Int) < (i : Int) := by omega
      go_wp2_with fail
      go_ret
      exact ⟨_, rfl, unhide hG⟩
    obtain ⟨o, ho⟩ : ∃ o, l[i]? = some o := ⟨_, List.getElem?_eq_getElem (by rw [unhide hL]; exact hlt)⟩
    obtain ⟨b, off, cap, e, hb, _, c0, c1⟩ := (unhide HA).at ho
    rw [unhide hL] at e
    cases e
    have hb' := Nat.lt_of_lt_of_le hb (unhide hG).2.1.size
    have k0 : wr.cell? ⟨b, off + i * 2, none⟩ = some (.int .i64 o.k) := ((unhide hG).2.1.cell (p := ⟨b, off + i * 2, none⟩) hb).trans c0
    have k1 : wr.cell? ⟨b, off + i * 2 + 1, none⟩ = some (.int .i64 o.n) := ((unhide hG).2.1.cell (p := ⟨b, off + i * 2 + 1, none⟩) hb).trans c1
    have i0 : (0 : Int) ≤ (i : Int) := by omega
    have i1 : (i : Int) < (L : Int) := by omega
    have HO := hide ho
    have HLB : Hid (((l.take i).map (srcF f)).length ≤ 1099511627776) := by rw [List.length_map, List.length_take, unhide hL]; unfold Hid; omega
    have H0 := hide ((BX.nil wr).add #[.int .i64 o.k, .int .i64 o.n] 52)
    simp only [List.nil_append] at H0
    obtain ⟨Y, eY⟩ : ∃ Y, wr.alloc (.cells #[.int .i64 o.k, .int .i64 o.n] 52) = Y := ⟨_, rfl⟩
    rw [eY] at H0
    have y0 := (unhide H0).ce 0 rfl 0
    have y1 := (unhide H0).ce 0 rfl 1
    have yl := (unhide H0).lt (i := 0) rfl
    simp at y0 y1 yl
    have HSO := unhide HSR o
    have HTK : Hid ((l.take (i + 1)).map (srcF f) = (l.take i).map (srcF f) ++ [srcF f o]) := by
      rw [take_push (unhide HO), List.map_append]; rfl
    obtain ⟨PL, hPL⟩ : ∃ PL, Hid ((l.take i).map (srcF f) = PL) := ⟨_, hide rfl⟩
    rw [unhide hPL] at HTK HLB hG
    clear ho c0 c1 hb
    by_cases hk : o.k = 0
    case neg =>
      rw [if_neg hk] at HSO
      have d0 : (o.k == 0) = false := by simp [hk]
      rw [HSO] at HTK
      clear hk HSO
      go_wp2_with (first | (at_builtin; refine appO rfl _ _ rfl _ PL rfl (((unhide hG).on (by repeat (first | refine bl_past ?_ (box1n _ _) | refine Below.setCell ?_ (by first | (simp; done) | (simp; omega)) _ | with_reducible exact (unhide H0).b))).1) ⟨Y.heap.size, 0, none⟩ 1 o rfl (new_cellsB _ _ _ (by simp)) (unhide HLB) ?_))
      intro v' w' hr hg hat
      have HG2 := hide ((((unhide hG).on (by repeat (first | refine bl_past ?_ (box1n _ _) | refine Below.setCell ?_ (by first | (simp; done) | (simp; omega)) _ | with_reducible exact (unhide H0).b))).push hr (by simp) hg (by simpa using hat)))
      rw [← unhide HTK] at HG2
      clear hr hg hat HLB
      go_wp2_with fail
      go_roundg (gk - 1)
      case measure => have := unhide hi; omega
      case rel => exact ⟨i + 1, v', by have := unhide hi; unfold Hid; omega, rfl, by go_num, HG2⟩
    rw [if_pos hk] at HSO
    have d0 : (o.k == 0) = true := by simp [hk]
    clear hk
    have HC := hide (unhide HKN Y o.n (bl_past (unhide hG).2.1 (unhide H0).b))
    have HSOH := hide HSO
    clear HSO
    go_wp2_with fail
    refine (unhide HC).mono ?_
    rintro e w2 ⟨rfl, b2⟩
    have H2 := hide ((unhide H0).go b2)
    clear b2 HC y0 y1 yl eY k0 k1
    cases hkn : knF f o.n with
    | none =>
      have e1 : srcF f o = o := by rw [unhide HSOH, hkn]; rfl
      rw [e1] at HTK
      have z0 := (unhide H2).ce 0 rfl 0
      have z1 := (unhide H2).ce 0 rfl 1
      have zl := (unhide H2).lt (i := 0) rfl
      simp at z0 z1 zl
      clear hkn e1 HSOH
      unfold mvO opV
      simp only [Option.isSome_none, Option.getD_none]
      go_wp2_with (first | (at_builtin; refine appO rfl _ _ rfl _ PL rfl (((unhide hG).on (by repeat (first | refine bl_past ?_ (box1n _ _) | refine Below.setCell ?_ (by first | (simp; done) | (simp; omega)) _ | with_reducible exact (unhide H2).b))).1) ⟨w2.heap.size + 1, 0, none⟩ 1 o rfl (new_cellsB _ _ _ (by simp)) (unhide HLB) ?_))
      intro v' w' hr hg hat
      have HG2 := hide ((((unhide hG).on (by repeat (first | refine bl_past ?_ (box1n _ _) | refine Below.setCell ?_ (by first | (simp; done) | (simp; omega)) _ | with_reducible exact (unhide H2).b))).push hr (by simp) hg (by simpa using hat)))
      rw [← unhide HTK] at HG2
      clear hr hg hat HLB
      go_wp2_with fail
      go_roundg (gk - 1)
      case measure => have := unhide hi; omega
      case rel => exact ⟨i + 1, v', by have := unhide hi; unfold Hid; omega, rfl, by go_num, HG2⟩
    | some q =>
      have e1 : srcF f o = q := by rw [unhide HSOH, hkn]; rfl
      rw [e1] at HTK
      have H3 := hide ((unhide H2).add #[.int .i64 q.k, .int .i64 q.n] 52)
      simp only [List.cons_append, List.nil_append] at H3
      obtain ⟨Z, eZ⟩ : ∃ Z, w2.alloc (.cells #[.int .i64 q.k, .int .i64 q.n] 52) = Z := ⟨_, rfl⟩
      rw [eZ] at H3
      have z0 := (unhide H3).ce 0 rfl 0
      have z1 := (unhide H3).ce 0 rfl 1
      have zl := (unhide H3).lt (i := 0) rfl
      have zf0 := (blk_cells ((unhide H3).h 0 _ rfl)).2.1 0
      have zf1 := (blk_cells ((unhide H3).h 0 _ rfl)).2.1 1
      have v0 := (unhide H3).ce 1 rfl 0
      have v1 := (unhide H3).ce 1 rfl 1
      have vl := (unhide H3).lt (i := 1) rfl
      simp at z0 z1 zl v0 v1 vl zf0 zf1
      clear hkn e1 HSOH
      unfold mvO opV
      simp only [Option.isSome_some, Option.getD_some]
      go_wp2_with (first | (at_builtin; refine appO rfl _ _ rfl _ PL rfl (((unhide hG).on (by repeat (first | refine bl_past ?_ (box1n _ _) | refine Below.setCell ?_ (by first | (simp; done) | (simp; omega)) _ | with_reducible exact (unhide H3).b))).1) ⟨Z.heap.size, 0, none⟩ 1 q rfl (new_cellsB _ _ _ (by simp)) (unhide HLB) ?_))
      intro v' w' hr hg hat
      have HG2 := hide ((((unhide hG).on (by repeat (first | refine bl_past ?_ (box1n _ _) | refine Below.setCell ?_ (by first | (simp; done) | (simp; omega)) _ | with_reducible exact (unhide H3).b))).push hr (by simp) hg (by simpa using hat)))
      rw [← unhide HTK] at HG2
      clear hr hg hat HLB
      go_wp2_with fail
      go_roundg (gk - 1)
      case measure => have := unhide hi; omega
      case rel => exact ⟨i + 1, v', by have := unhide hi; unfold Hid; omega, rfl, by go_num, HG2⟩
end Go.Proofs.Ytpbdpejhjdoleaa
