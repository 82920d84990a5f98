/-
  Values, frames, fibers with new numbers.
-/
import Derived.Test.YtadgiccfjppnfaaPri
namespace Go.Proofs.Ytadgiccfjppnfaa
open Go.RowKit
set_option linter.unusedVariables false
set_option linter.unusedSimpArgs false
theorem set_rep {α : Type} (f : α → α) (z : α) {l : List α} {i : Nat} {p : α} (hp : l[i]? = some p) {L : Nat} (hL : l.length = L) : ((l.take i).map f ++ List.replicate (L - i) z).set i (f p) = (l.take (i + 1)).map f ++ List.replicate (L - (i + 1)) z := by
  have hi := (List.getElem?_eq_some_iff.1 hp).1
  have : ((l.take i).map f).length = i := by simp; omega
  rw [take_pushE hp, List.map_append, List.set_append, if_neg (by omega)]
  rw [this, Nat.sub_self, show L - i = (L - (i + 1)) + 1 by omega, List.replicate_succ, List.set_cons_zero]
  simp
set_option maxRecDepth 100000 in
set_option maxHeartbeats 3200000 in
theorem values_any {B : Nat} {T : List ByteArray} {O : List Ob} {X : List Obv} {ob mb : Nat} {tv ov : Value} {w : World} {m : List Nat × List Nat} (h : OrM B T O X ob mb tv ov w m) (hm : MOk T.length O.length m) {lv : Value} {l : List (Int × Int)} (hr : Rx w 2 lv l.length (flt enI l)) (hN : l.length ≤ 1048576) (hok : ∀ p ∈ l, OkV p) (hh : ∀ p ∈ l, Hv T.length O m p) :
    Calls Try.prog 66 #[.pointer (some ⟨ob, 0, none⟩), lv] w fun e w' => ∃ v', e = .returned v' ∧ Gx w 2 enI (l.map (numV T.length O m)) v' w' := by
  obtain ⟨la, lc, rfl, l1, l2⟩ := hr.shape
  have HV : Hid (∀ (W : World) (p : Int × Int), Below w.heap.size w W → p ∈ l → Calls Try.prog 81 #[.pointer (some ⟨ob, 0, none⟩), .agg #[.int .i64 p.1, .int .i64 p.2]] W fun e w' => e = .returned (.agg #[.int .i64 (numV T.length O m p).1, .int .i64 (numV T.length O m p).2]) ∧ Below W.heap.size W w') := fun W p hb hp => value_any (h.fr (Fr.of_below (S := fun _ => False) hb) (fun _ _ e => e)) hm (hok p hp) (hh p hp)
  have HR := hide hr
  obtain ⟨L, hL⟩ : ∃ n, Hid (l.length = n) := ⟨_, hide rfl⟩
  rw [unhide hL] at l1 hN ⊢
  unfold maxLen at l2
  obtain ⟨i3, hi3, hz3, hs3, hb3⟩ := info_parts Try.info40
  have hmk : ∀ W : World, (Instr.makeSlice 36 (.int .i64 (L : Int)) (.int .i64 (L : Int))).run Try.prog W = .ok (.slice (some ⟨W.heap.size, 0, none⟩) L L) (W.alloc (.cells (madeCells (Value.agg #[.int .i64 0, .int .i64 0]).cells (L * 2)) 40)) := fun W => by
    have := run_make (P := Try.prog) W 36 40 i3 _ Try.underlying36 hi3 hz3 .i64 .i64 (L : Int) (L : Int) (by omega) (by omega) (by rw [hb3]; omega) (by omega)
    rw [hs3] at this
    exact this
  have hro := made_ro enI ((0 : Int), (0 : Int)) (Value.agg #[.int .i64 0, .int .i64 0]).cells 2 zI (by decide) rfl w 40 L (by unfold maxLen; omega)
  have HK0 : Hid (Ro (w.alloc (.cells (madeCells (Value.agg #[.int .i64 0, .int .i64 0]).cells (L * 2)) 40)) 2 (.slice (some ⟨w.heap.size, 0, none⟩) L L) L (flt enI ((l.take 0).map (numV T.length O m) ++ List.replicate (L - 0) ((0 : Int), (0 : Int)))) ∧ Below w.heap.size w (w.alloc (.cells (madeCells (Value.agg #[.int .i64 0, .int .i64 0]).cells (L * 2)) 40))) := ⟨by simpa using hro, (Below.refl _ w).alloc (Nat.le_refl _) _⟩
  clear hro h hm hr hok hh
  go_enter Try.func66, Try.ntmps66
  go_wp2_with fail
  go_loopg [12] L (fun g t12 wr => ∃ (i : Nat), Hid (i + g = L) ∧ t12 = .int .i64 (i : Int) ∧ Hid (Ro wr 2 (.slice (some ⟨w.heap.size, 0, none⟩) L L) L (flt enI ((l.take i).map (numV T.length O m) ++ List.replicate (L - i) ((0 : Int), (0 : Int)))) ∧ Below w.heap.size w wr))
  case atStart => exact ⟨0, by unfold Hid; omega, rfl, HK0⟩
  case round =>
    clear HK0 hmk
    obtain ⟨i, hi, rfl, hK⟩ := hrel
    by_cases hlt : i < L
    · obtain ⟨p, hp⟩ : ∃ p, l[i]? = some p := ⟨_, List.getElem?_eq_getElem (by rw [unhide hL]; exact hlt)⟩
      obtain ⟨eb, eo, ecap, ee, -, -, hebl, hc0⟩ := Rx.elem zI (l := l) (unhide HR) hp
      rw [unhide hL] at ee
      cases ee
      have z0 := ((unhide hK).2.cell (p := ⟨eb, eo + i * 2 + 0, none⟩) hebl).trans (hc0 0 _ rfl)
      have z1 := ((unhide hK).2.cell (p := ⟨eb, eo + i * 2 + 1, none⟩) hebl).trans (hc0 1 _ rfl)
      rw [Nat.add_zero] at z0
      have i0' : (0 : Int) ≤ (i : Int) := by omega
      have i1' : (i : Int) < (L : Int) := by omega
      have HC := hide (unhide HV wr p (unhide hK).2 (List.mem_of_getElem? hp))
      obtain ⟨np, hnp⟩ : ∃ n, Hid (numV T.length O m p = n) := ⟨_, hide rfl⟩
      rw [unhide hnp] at HC
      have HP := hide hp
      obtain ⟨p1, p2⟩ := p
      obtain ⟨n1, n2⟩ := np
      simp only at HC
      clear hp hc0
      go_wp2_with fail
      refine (unhide HC).mono ?_
      rintro e w2 ⟨rfl, hb2⟩
      have hro2 := (unhide hK).1.fr (Fr.of_below (S := fun _ => False) hb2) (fun _ _ e => e)
      obtain ⟨g, off, cap, eg, -, -, hgl, hgc⟩ := hro2.full (by omega)
      cases eg
      have fz : ∀ k, w2.frozen? ⟨w.heap.size, k, none⟩ = false := fun k => hro2.free rfl k
      have y0 : ∃ u, w2.cell? ⟨w.heap.size, i * 2, none⟩ = some u := by
        have := hgc (i * 2) (by omega)
        rw [Nat.zero_add] at this
        rw [this]
        exact ⟨_, List.getElem?_eq_getElem (by rw [hro2.1]; omega)⟩
      have y1 : ∃ u, w2.cell? ⟨w.heap.size, i * 2 + 1, none⟩ = some u := by
        have := hgc (i * 2 + 1) (by omega)
        rw [Nat.zero_add] at this
        rw [this]
        exact ⟨_, List.getElem?_eq_getElem (by rw [hro2.1]; omega)⟩
      obtain ⟨u0, y0⟩ := y0
      obtain ⟨u1, y1⟩ := y1
      have fz0 := fz (i * 2)
      have fz1 := fz (i * 2 + 1)
      obtain ⟨r1, r2⟩ := hro2.putAt zI (by simp [unhide hL]; omega) (g := w.heap.size) (off := 0) (cap := L) rfl (i := i) hlt (n1, n2)
      have hset := set_rep (numV T.length O m) ((0 : Int), (0 : Int)) (unhide HP) (unhide hL)
      rw [unhide hnp] at hset
      rw [hset] at r1
      rw [show w2.setCells w.heap.size (0 + i * 2) (enI (n1, n2)) = (w2.setCell ⟨w.heap.size, i * 2, none⟩ (.int .i64 n1)).setCell ⟨w.heap.size, i * 2 + 1, none⟩ (.int .i64 n2) by rw [Nat.zero_add]; rfl] at r1 r2
      have HK2 : Hid (Ro ((w2.setCell ⟨w.heap.size, i * 2, none⟩ (.int .i64 n1)).setCell ⟨w.heap.size, i * 2 + 1, none⟩ (.int .i64 n2)) 2 (.slice (some ⟨w.heap.size, 0, none⟩) L L) L (flt enI ((l.take (i + 1)).map (numV T.length O m) ++ List.replicate (L - (i + 1)) ((0 : Int), (0 : Int)))) ∧ Below w.heap.size w ((w2.setCell ⟨w.heap.size, i * 2, none⟩ (.int .i64 n1)).setCell ⟨w.heap.size, i * 2 + 1, none⟩ (.int .i64 n2))) := ⟨r1, ((unhide hK).2.trans (hb2.mono (unhide hK).2.size)).trans (r2.below (Nat.le_trans (unhide hK).2.size hb2.size) (fun k hk e => by omega))⟩
      clear hb2 hro2 hgc fz r1 r2 hset hK HC z0 z1
      go_wp2_with fail
      go_roundg (gk - 1)
      case measure => have := unhide hi; omega
      case rel => exact ⟨i + 1, by have := unhide hi; unfold Hid; omega, by go_num, HK2⟩
    · have hiN : L = i := by have := unhide hi; omega
      subst hiN
      have HG : Hid (Gx w 2 enI (l.map (numV T.length O m)) (.slice (some ⟨w.heap.size, 0, none⟩) L L) wr) := by
        have h1 := (unhide hK).1
        rw [List.take_of_length_le (by rw [unhide hL]; exact Nat.le_refl _), Nat.sub_self, List.replicate_zero, List.append_nil] at h1
        refine ⟨by rw [List.length_map, unhide hL]; exact h1, (unhide hK).2, fun k hk => ?_⟩
        cases hk
        exact Nat.le_refl _
      clear hK
      go_wp2_with fail
      go_ret
      exact ⟨_, rfl, unhide HG⟩
set_option maxRecDepth 100000 in
set_option maxHeartbeats 3200000 in
theorem frames_any {B : Nat} {T : List ByteArray} {O : List Ob} {X : List Obv} {ob mb : Nat} {tv ov : Value} {w : World} {m : List Nat × List Nat} (h : OrM B T O X ob mb tv ov w m) (hm : MOk T.length O.length m) {lv : Value} {fs : List Fm} (hr : FsV w lv fs) (hN : fs.length ≤ 1048576) (hs : ∀ f ∈ fs, f.sl.length ≤ 1048576) (hok : ∀ f ∈ fs, ∀ p ∈ f.sl, OkV p) (hh : ∀ f ∈ fs, ∀ p ∈ f.sl, Hv T.length O m p) :
    Calls Try.prog 64 #[.pointer (some ⟨ob, 0, none⟩), lv] w fun e w' => ∃ v' xs, e = .returned v' ∧ OM (fun k => w.heap.size ≤ k) w' v' (fs.map (renM T.length O m)) xs ∧ Below w.heap.size w w' := by
  obtain ⟨xs, hxl, hxr, hxe⟩ := hr
  have HV : Hid (∀ (W : World) (f : Fm) (lv : Value), Below w.heap.size w W → f ∈ fs → Rx w 2 lv f.sl.length (flt enI f.sl) → Calls Try.prog 66 #[.pointer (some ⟨ob, 0, none⟩), lv] W fun e w' => ∃ v', e = .returned v' ∧ Gx W 2 enI (f.sl.map (numV T.length O m)) v' w') := fun W f lv hb hf hx => values_any (h.fr (Fr.of_below (S := fun _ => False) hb) (fun _ _ e => e)) hm (hx.below hb (Nat.le_refl _)) (hs f hf) (hok f hf) (hh f hf)
  have HXE := hide hxe
  have hsh : ∀ x ∈ xs, ∃ a n c, x.sv = .slice a n c := fun x hx => by
    obtain ⟨i, hi, rfl⟩ := List.getElem_of_mem hx
    obtain ⟨a, c, e, _⟩ := ((hxe i fs[i] xs[i] (List.getElem?_eq_getElem (by omega)) (List.getElem?_eq_getElem hi)).2.2).shape
    exact ⟨a, _, c, e⟩
  have HCL := hide (cloneM_any hxr (by omega) (oneM hsh))
  obtain ⟨la, lc, rfl, l1, l2⟩ := hxr.shape
  obtain ⟨L, hL⟩ : ∃ n, Hid (fs.length = n) := ⟨_, hide rfl⟩
  rw [unhide hL] at hxl hN
  rw [hxl] at HCL l1 ⊢
  have HXL := hide hxl
  unfold maxLen at l2
  have hNM : Hid ((fs.map (renM T.length O m)).length = L) := by rw [List.length_map]; exact hL
  clear h hm hxr hxe hs hok hh hsh hxl
  go_enter Try.func64, Try.ntmps64
  go_wp2_with fail
  refine (unhide HCL).mono ?_
  rintro e w1 ⟨v1, rfl, hG⟩
  have HK0 : Hid (RI enM 3 FmO blM w.heap.size (fs.map (renM T.length O m)) xs 0 w1 v1 ∧ Below w.heap.size w w1) := ⟨RI.start (by rw [unhide hNM]; exact unhide HXL) hG (Nat.le_refl _), hG.2.1⟩
  obtain ⟨va, vc, ev, hv1, hv2⟩ := hG.1.shape
  rw [unhide HXL] at ev
  subst ev
  clear hG HCL
  go_wp2_with fail
  go_loopg [11] L (fun g t11 wr => ∃ (i : Nat) (ys : List Fmv), Hid (i + g = L) ∧ t11 = .int .i64 (i : Int) ∧ Hid (∀ j, i ≤ j → ys[j]? = xs[j]?) ∧ Hid (RI enM 3 FmO blM w.heap.size (fs.map (renM T.length O m)) ys i wr (.slice va L vc) ∧ Below w.heap.size w wr))
  case atStart => exact ⟨0, xs, by unfold Hid; omega, rfl, by unfold Hid; intros; rfl, HK0⟩
  case round =>
    clear HK0
    obtain ⟨i, ys, hi, rfl, hys, hK⟩ := hrel
    by_cases hlt : i < L
    · obtain ⟨f, hf⟩ : ∃ p, fs[i]? = some p := ⟨_, List.getElem?_eq_getElem (by rw [unhide hL]; exact hlt)⟩
      obtain ⟨x, hx⟩ : ∃ p, xs[i]? = some p := ⟨_, List.getElem?_eq_getElem (by rw [unhide HXL]; exact hlt)⟩
      have hy := (unhide hys i (Nat.le_refl _)).trans hx
      obtain ⟨xf, xp, xsl⟩ := unhide HXE i f x hf hx
      obtain ⟨sa, sc, es, sl1, sl2⟩ := xsl.shape
      obtain ⟨g, off, cap, eg, -, -, hgl, hgc⟩ := Rx.elem zM (l := ys) (by rw [(unhide hK).1.len]; exact Rx.of_ro (unhide hK).1.row) hy
      rw [(unhide hK).1.len, unhide hNM] at eg
      cases eg
      have z2 := hgc 2 _ rfl
      rw [es] at z2
      have fz0 := (unhide hK).1.row.free (by rw [unhide hNM]) (off + i * 3 + 2)
      have i0' : (0 : Int) ≤ (i : Int) := by omega
      have i1' : (i : Int) < (L : Int) := by omega
      have HC := hide (unhide HV wr f _ (unhide hK).2 (List.mem_of_getElem? hf) xsl)
      rw [es] at HC
      obtain ⟨SL, hSL⟩ : ∃ n, Hid (f.sl.length = n) := ⟨_, hide rfl⟩
      rw [unhide hSL] at HC z2
      have HF := hide hf
      have HY := hide hy
      have hxff : Hid (x.fn = f.fn ∧ x.pc = f.pc) := ⟨xf, xp⟩
      clear hf hx hy hgc xsl es sl1 sl2 xf xp
      go_wp2_with fail
      refine (unhide HC).mono ?_
      rintro e w2 ⟨v2, rfl, hG2⟩
      have hR2 := (unhide hK).1.below staysM hG2.2.1
      have hwg : g < wr.heap.size := hgl
      obtain ⟨c1, c2⟩ := hR2.put staysM zM (g := g) (off := off) (n := L) (cap := vc) rfl (c := 2) (x' := ⟨x.fn, x.pc, v2⟩) (y := v2) (unhide HY) (by decide) rfl
      have z2' := (hG2.2.1.cell (p := ⟨g, off + i * 3 + 2, none⟩) hwg).trans z2
      have fz' : w2.frozen? ⟨g, off + i * 3 + 2, none⟩ = false := hR2.row.free (by rw [unhide hNM]) _
      have hgs := hG2.2.1.size
      have hv2n : ∀ k, v2.ownBlock = some k → wr.heap.size ≤ k ∧ k < (w2.setCell ⟨g, off + i * 3 + 2, none⟩ v2).heap.size := fun k hk => ⟨hG2.2.2 k hk, Nat.lt_of_lt_of_le (hG2.1.lt k hk) c2.size⟩
      have hiy : i < ys.length := (List.getElem?_eq_some_iff.1 (unhide HY)).1
      have hdone := c1.done (Q := wr.heap.size) (u := renM T.length O m f) (x := ⟨x.fn, x.pc, v2⟩) (by rw [List.getElem?_map, unhide HF]; rfl) (by rw [List.getElem?_set_self hiy]) ⟨(unhide hxff).1, (unhide hxff).2, by
          show Ro _ 2 v2 ((f.sl.map (numV T.length O m)).length) (flt enI (f.sl.map (numV T.length O m)))
          exact hG2.1.fr c2 (fun k hk e => by have := hG2.2.2 k hk; omega)⟩ hv2n (unhide hK).2.size (fun k hk => (unhide hK).1.row.lt k hk) (fun j y k hj hy hk => by
          rw [List.getElem?_set_ne (by omega)] at hy
          exact ((unhide hK).1.eb j y k hj hy hk).2.1)
      have HK2 : Hid (RI enM 3 FmO blM w.heap.size (fs.map (renM T.length O m)) (ys.set i ⟨x.fn, x.pc, v2⟩) (i + 1) (w2.setCell ⟨g, off + i * 3 + 2, none⟩ v2) (.slice (some ⟨g, off, none⟩) L vc) ∧ Below w.heap.size w (w2.setCell ⟨g, off + i * 3 + 2, none⟩ v2)) := ⟨hdone, ((unhide hK).2.trans (hG2.2.1.mono (unhide hK).2.size)).trans (c2.below (Nat.le_trans (unhide hK).2.size hG2.2.1.size) (fun k hk e => by have := (unhide hK).1.rb g rfl; omega))⟩
      have hys2 : Hid (∀ j, i + 1 ≤ j → (ys.set i ⟨x.fn, x.pc, v2⟩)[j]? = xs[j]?) := fun j hj => by
        rw [List.getElem?_set_ne (by omega)]
        exact unhide hys j (by omega)
      obtain ⟨va2, vc2, ev2, -, -⟩ := hG2.1.shape
      rw [List.length_map, unhide hSL] at ev2
      subst ev2
      clear hG2 hR2 c1 c2 hdone hv2n hK z2 HC hys
      go_wp2_with fail
      go_roundg (gk - 1)
      case measure => have := unhide hi; omega
      case rel => exact ⟨i + 1, _, by have := unhide hi; unfold Hid; omega, by go_num, hys2, HK2⟩
    · have hiN : L = i := by have := unhide hi; omega
      subst hiN
      have HG : Hid (OM (fun k => w.heap.size ≤ k) wr (.slice va L vc) (fs.map (renM T.length O m)) ys) := (unhide hK).1.ow (by rw [unhide hNM]; exact Nat.le_refl _)
      have HBB := hide (unhide hK).2
      clear hK
      go_wp2_with fail
      go_ret
      exact ⟨_, _, rfl, unhide HG, unhide HBB⟩
end Go.Proofs.Ytadgiccfjppnfaa
