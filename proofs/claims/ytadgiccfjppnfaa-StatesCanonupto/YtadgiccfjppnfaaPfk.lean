/-
  Fibers, keys with new numbers.
-/
import Derived.Test.YtadgiccfjppnfaaPvs
namespace Go.Proofs.Ytadgiccfjppnfaa
open Go.RowKit
set_option linter.unusedVariables false
set_option linter.unusedSimpArgs false
theorem infF : (Try.prog.info? 35).map (fun i => (i.zero, i.size, i.bytes)) = some (some (.agg #[.slice none 0 0]), 1, 24) := by kernel_rfl
set_option maxRecDepth 100000 in
set_option maxHeartbeats 3200000 in
theorem fibers_any {B : Nat} {T : List ByteArray} {O : List Ob} {X : List Obv} {ob mb : Nat} {tv ov : Value} {w : World} {m : List Nat × List Nat} (h : OrM B T O X ob mb tv ov w m) (hm : MOk T.length O.length m) {lv : Value} {bs : List (List Fm)} (hr : BsV w lv bs) (hN : bs.length ≤ 1048576) (hs : ∀ b ∈ bs, b.length ≤ 1048576 ∧ ∀ f ∈ b, f.sl.length ≤ 1048576) (hok : ∀ b ∈ bs, ∀ f ∈ b, ∀ p ∈ f.sl, OkV p) (hh : ∀ b ∈ bs, ∀ f ∈ b, ∀ p ∈ f.sl, Hv T.length O m p) :
    Calls Try.prog 31 #[.pointer (some ⟨ob, 0, none⟩), lv] w fun e w' => ∃ v' xs, e = .returned v' ∧ OB (fun k => w.heap.size ≤ k) w' v' (bs.map (fun b => b.map (renM T.length O m))) xs ∧ Below w.heap.size w w' := by
  obtain ⟨la, lc, rfl, l1, l2⟩ := hr.shape
  have HV : Hid (∀ (W : World) (b : List Fm) (lv : Value), Below w.heap.size w W → b ∈ bs → FsV w lv b → Calls Try.prog 64 #[.pointer (some ⟨ob, 0, none⟩), lv] W fun e w' => ∃ v' xs, e = .returned v' ∧ OM (fun k => W.heap.size ≤ k) w' v' (b.map (renM T.length O m)) xs ∧ Below W.heap.size W w') := fun W b lv hb hf hx => frames_any (h.fr (Fr.of_below (S := fun _ => False) hb) (fun _ _ e => e)) hm (hx.below hb (Nat.le_refl _)) (hs b hf).1 (hs b hf).2 (hok b hf) (hh b hf)
  have HR := hide hr
  obtain ⟨L, hL⟩ : ∃ n, Hid (bs.length = n) := ⟨_, hide rfl⟩
  rw [unhide hL] at l1 hN HR ⊢
  unfold maxLen at l2
  have hNM : Hid ((bs.map (fun b => b.map (renM T.length O m))).length = L) := by rw [List.length_map]; exact hL
  obtain ⟨i3, hi3, hz3, hs3, hb3⟩ := info_parts infF
  have hmk : ∀ W : World, (Instr.makeSlice 24 (.int .i64 (L : Int)) (.int .i64 (L : Int))).run Try.prog W = .ok (.slice (some ⟨W.heap.size, 0, none⟩) L L) (W.alloc (.cells (madeCells (Value.agg #[.slice none 0 0]).cells (L * 1)) 35)) := fun W => by
    have := run_make (P := Try.prog) W 24 35 i3 _ Try.underlying24 hi3 hz3 .i64 .i64 (L : Int) (L : Int) (by omega) (by omega) (by rw [hb3]; omega) (by omega)
    rw [hs3] at this
    exact this
  have hro := made_ro enB ((.slice none 0 0 : Value), ([] : List Fmv)) (Value.agg #[.slice none 0 0]).cells 1 zB (by decide) rfl w 35 L (by unfold maxLen; omega)
  have hG0 : Gx w 1 enB (List.replicate L ((.slice none 0 0 : Value), ([] : List Fmv))) (.slice (some ⟨w.heap.size, 0, none⟩) L L) (w.alloc (.cells (madeCells (Value.agg #[.slice none 0 0]).cells (L * 1)) 35)) := ⟨by rw [List.length_replicate]; exact hro, (Below.refl _ w).alloc (Nat.le_refl _) _, fun k hk => by cases hk; exact Nat.le_refl _⟩
  have HK0 : Hid (RI enB 1 PB blB w.heap.size (bs.map (fun b => b.map (renM T.length O m))) (List.replicate L ((.slice none 0 0 : Value), ([] : List Fmv))) 0 (w.alloc (.cells (madeCells (Value.agg #[.slice none 0 0]).cells (L * 1)) 35)) (.slice (some ⟨w.heap.size, 0, none⟩) L L) ∧ Below w.heap.size w (w.alloc (.cells (madeCells (Value.agg #[.slice none 0 0]).cells (L * 1)) 35))) := ⟨RI.start (by rw [unhide hNM, List.length_replicate]) hG0 (Nat.le_refl _), hG0.2.1⟩
  rw [Nat.mul_one] at hmk HK0
  clear hro hG0 h hm hr hok hh hs
  go_enter Try.func31, Try.ntmps31
  go_wp2_with fail
  go_loopg [12] L (fun g t12 wr => ∃ (i : Nat) (ys : List (Value × List Fmv)), Hid (i + g = L) ∧ t12 = .int .i64 (i : Int) ∧ Hid (RI enB 1 PB blB w.heap.size (bs.map (fun b => b.map (renM T.length O m))) ys i wr (.slice (some ⟨w.heap.size, 0, none⟩) L L) ∧ Below w.heap.size w wr))
  case atStart => exact ⟨0, _, by unfold Hid; omega, rfl, HK0⟩
  case round =>
    clear HK0 hmk
    obtain ⟨i, ys, hi, rfl, hK⟩ := hrel
    by_cases hlt : i < L
    · obtain ⟨b, hb⟩ : ∃ p, bs[i]? = some p := ⟨_, List.getElem?_eq_getElem (by rw [unhide hL]; exact hlt)⟩
      obtain ⟨y, hy⟩ : ∃ p, ys[i]? = some p := ⟨_, List.getElem?_eq_getElem (by rw [(unhide hK).1.len, unhide hNM]; exact hlt)⟩
      obtain ⟨eb, eo, fa, fc, ee, hebl, k0, hFs, f1, f2⟩ := (unhide HR).one hb
      cases ee
      have z0 := ((unhide hK).2.cell (p := ⟨eb, eo + i, none⟩) hebl).trans k0
      obtain ⟨g, off, cap, eg, -, -, hgl, hgc⟩ := Rx.elem zB (l := ys) (by rw [(unhide hK).1.len]; exact Rx.of_ro (unhide hK).1.row) hy
      rw [(unhide hK).1.len, unhide hNM] at eg
      cases eg
      have i0' : (0 : Int) ≤ (i : Int) := by omega
      have i1' : (i : Int) < (L : Int) := by omega
      have HC := hide (unhide HV wr b _ (unhide hK).2 (List.mem_of_getElem? hb) hFs)
      obtain ⟨FL, hFL⟩ : ∃ n, Hid (b.length = n) := ⟨_, hide rfl⟩
      rw [unhide hFL] at HC z0
      have HF := hide hb
      have HY := hide hy
      have hq0 := hgc 0 _ rfl
      rw [Nat.zero_add, Nat.mul_one, Nat.add_zero] at hq0
      have HQ0 := hide hq0
      clear hb hy hgc hFs f1 f2 k0 hq0
      go_wp2_with fail
      refine (unhide HC).mono ?_
      rintro e w2 ⟨v2, xs2, rfl, hO2, hB2⟩
      have hR2 := (unhide hK).1.below staysB hB2
      obtain ⟨c1, c2⟩ := hR2.put staysB zB (g := w.heap.size) (off := 0) (n := L) (cap := L) rfl (c := 0) (x' := (v2, xs2)) (y := v2) (unhide HY) (by decide) rfl
      rw [Nat.zero_add, Nat.mul_one, Nat.add_zero] at c1 c2
      have z2' := (hB2.cell (p := ⟨w.heap.size, i, none⟩) hgl).trans (unhide HQ0)
      have fz' : w2.frozen? ⟨w.heap.size, i, none⟩ = false := hR2.row.free (by rw [unhide hNM]) _
      have hgs := hB2.size
      have hnb : ∀ k, blB (v2, xs2) k → wr.heap.size ≤ k ∧ k < (w2.setCell ⟨w.heap.size, i, none⟩ v2).heap.size := fun k hk => by
        have := hO2.in (k := k) hk
        exact ⟨this.1, Nat.lt_of_lt_of_le this.2 c2.size⟩
      have hiy : i < ys.length := (List.getElem?_eq_some_iff.1 (unhide HY)).1
      have hdone := c1.done (Q := wr.heap.size) (u := b.map (renM T.length O m)) (x := (v2, xs2)) (by rw [List.getElem?_map, unhide HF]; rfl) (by rw [List.getElem?_set_self hiy]) (by
          show OM (fun _ => True) _ v2 _ xs2
          refine (hO2.mono (fun _ _ _ => trivial)).fr staysM c2 (fun k _ hi e => ?_)
          have := (hO2.in (k := k) hi).1
          omega) hnb (unhide hK).2.size (fun k hk => (unhide hK).1.row.lt k hk) (fun j y k hj hy hk => by
          rw [List.getElem?_set_ne (by omega)] at hy
          exact ((unhide hK).1.eb j y k hj hy hk).2.1)
      have HK2 : Hid (RI enB 1 PB blB w.heap.size (bs.map (fun b => b.map (renM T.length O m))) (ys.set i (v2, xs2)) (i + 1) (w2.setCell ⟨w.heap.size, i, none⟩ v2) (.slice (some ⟨w.heap.size, 0, none⟩) L L) ∧ Below w.heap.size w (w2.setCell ⟨w.heap.size, i, none⟩ v2)) := ⟨hdone, ((unhide hK).2.trans (hB2.mono (unhide hK).2.size)).trans (c2.below (Nat.le_trans (unhide hK).2.size hB2.size) (fun k hk e => by omega))⟩
      obtain ⟨va2, vc2, ev2, -, -⟩ := hO2.row.shape
      rw [List.length_map, unhide hFL] at ev2
      subst ev2
      clear hO2 hB2 hR2 c1 c2 hdone hnb hK z0 HC
      go_wp2_with fail
      go_roundg (gk - 1)
      case measure => have := unhide hi; omega
      case rel => exact ⟨i + 1, _, by have := unhide hi; unfold Hid; omega, by go_num, HK2⟩
    · have hiN : L = i := by have := unhide hi; omega
      subst hiN
      have HG : Hid (OB (fun k => w.heap.size ≤ k) wr (.slice (some ⟨w.heap.size, 0, none⟩) L L) (bs.map (fun b => b.map (renM T.length O m))) ys) := (unhide hK).1.ow (by rw [unhide hNM]; exact Nat.le_refl _)
      have HBB := hide (unhide hK).2
      clear hK
      go_wp2_with fail
      go_ret
      exact ⟨_, _, rfl, unhide HG, unhide HBB⟩
theorem fld40 (a b : Int) (w : World) : (Instr.field 40 (.agg #[.int .i64 a, .int .i64 b]) 1).run Try.prog w = .ok (.int .i64 b) w := by kernel_rfl
theorem set_dropE {α : Type} (f : α → α) {l : List α} {i : Nat} {p : α} (hp : l[i]? = some p) : ((l.take i).map f ++ l.drop i).set i (f p) = (l.take (i + 1)).map f ++ l.drop (i + 1) := by
  have hi := (List.getElem?_eq_some_iff.1 hp).1
  have : ((l.take i).map f).length = i := by simp; omega
  rw [take_pushE hp, List.map_append, List.set_append, if_neg (by omega), this, Nat.sub_self]
  rw [List.drop_eq_getElem_cons hi, List.set_cons_zero]
  simp
set_option maxRecDepth 100000 in
set_option maxHeartbeats 3200000 in
theorem keys_any {B : Nat} {T : List ByteArray} {O : List Ob} {X : List Obv} {ob mb : Nat} {tv ov : Value} {w : World} {m : List Nat × List Nat} (h : OrM B T O X ob mb tv ov w m) (hm : MOk T.length O.length m) {kd fn cap : Int} {sh : Bool} {ia : Option Addr} {il ic : Nat} {kv : Value} {l : List Int} (hr : Rx w 1 kv l.length (flt enL l)) (hN : l.length ≤ 1048576) (hok : ∀ k ∈ l, OkV (4, k)) (hh : kd = 7 → ∀ k ∈ l, Hv T.length O m (4, k)) :
    Calls Try.prog 67 #[.pointer (some ⟨ob, 0, none⟩), .agg #[.int .i64 kd, .slice ia il ic, kv, .int .i64 fn, .int .i64 cap, .bool sh]] w fun e w' => ∃ v', e = .returned v' ∧ Gx w 1 enL (if kd = 7 then l.map (numT T.length m.1) else l) v' w' := by
  obtain ⟨ka, kc, rfl, l1, l2⟩ := hr.shape
  obtain ⟨W1, hW1⟩ : ∃ W, Hid (w.alloc (.cells #[.int .i64 kd, .slice ia il ic, .slice ka l.length kc, .int .i64 fn, .int .i64 cap, .bool sh] 43) = W) := ⟨_, hide rfl⟩
  have f1 : Below w.heap.size w W1 := by rw [← unhide hW1]; exact (Below.refl _ w).alloc (Nat.le_refl _) _
  have nb : W1.heap[w.heap.size]? = some (.cells #[.int .i64 kd, .slice ia il ic, .slice ka l.length kc, .int .i64 fn, .int .i64 cap, .bool sh] 43) := by rw [← unhide hW1]; exact heap_alloc_new w _
  have HCL := hide (cloneL_any (hr.below f1 (Nat.le_refl _)) hN (oneL l))
  have HKO := hide (fun W => keysOf_any W kd fn cap sh (.slice ia il ic) ka l.length kc)
  have c2 := (blk_cells nb).1 2
  have lb := (blk_cells nb).2.2
  simp at c2
  have HNB := hide nb
  have HF1 := hide f1
  have HR := hide hr
  obtain ⟨L, hL⟩ : ∃ n, Hid (l.length = n) := ⟨_, hide rfl⟩
  have HV : Hid (kd = 7 → ∀ (W : World) (k : Int), Below w.heap.size w W → k ∈ l → Calls Try.prog 81 #[.pointer (some ⟨ob, 0, none⟩), .agg #[.int .i64 4, .int .i64 k]] W fun e w' => e = .returned (.agg #[.int .i64 4, .int .i64 (numT T.length m.1 k)]) ∧ Below W.heap.size W w') := fun h7 W k hb hp => by
    have := value_any (h.fr (Fr.of_below (S := fun _ => False) hb) (fun _ _ e => e)) hm (hok k hp) (hh h7 k hp)
    have e : numV T.length O m (4, k) = (4, numT T.length m.1 k) := by unfold numV; rw [if_pos rfl]
    rw [e] at this
    exact this
  rw [unhide hL] at l1 hN HKO HNB c2 hW1 HCL ⊢
  unfold maxLen at l2
  clear h hm hr hok hh f1 nb
  by_cases hk : kd = 7
  · subst hk
    have HV7 := hide (unhide HV rfl)
    rw [if_pos rfl]
    simp only [if_true] at HKO
    go_enter Try.func67, Try.ntmps67
    go_wp2_with fail
    rw [unhide hW1]
    go_wp2_with fail
    refine (unhide HCL).mono ?_
    rintro e w1 ⟨v1, rfl, hG⟩
    have nb1 := bkeep1 (unhide HNB) hG.2.1
    obtain ⟨cc, -, lb1⟩ := blk_cells nb1
    have d0 := cc 0
    have d1 := cc 1
    have d2 := cc 2
    have d3 := cc 3
    have d4 := cc 4
    have d5 := cc 5
    simp at d0 d1 d2 d3 d4 d5
    have HG := hide hG
    obtain ⟨va, vc, ev, hv1, hv2⟩ := hG.1.shape
    rw [unhide hL] at ev
    subst ev
    clear nb1 cc hG c2 HCL
    go_wp2_with fail
    refine (unhide HKO _).mono ?_
    rintro e w2 ⟨rfl, hb2⟩
    have HK0 : Hid (Ro w2 1 (.slice va L vc) L (flt enL ((l.take 0).map (numT T.length m.1) ++ l.drop 0)) ∧ Below w.heap.size w w2) := by
      refine ⟨?_, ((unhide HF1).trans ((unhide HG).2.1.mono (unhide HF1).size)).trans (hb2.mono (Nat.le_trans (unhide HF1).size (unhide HG).2.1.size))⟩
      have := (unhide HG).1.fr (Fr.of_below (S := fun _ => False) hb2) (fun _ _ e => e)
      rw [unhide hL] at this
      simpa using this
    have HVB : Hid (∀ k, (Value.slice va L vc).ownBlock = some k → w.heap.size ≤ k) := fun k hk => Nat.le_trans (unhide HF1).size ((unhide HG).2.2 k hk)
    clear hb2 HKO d0 d1 d2 d3 d4 d5
    go_wp2_with fail
    go_loopg [14] L (fun g t14 wr => ∃ (i : Nat), Hid (i + g = L) ∧ t14 = .int .i64 (i : Int) ∧ Hid (Ro wr 1 (.slice va L vc) L (flt enL ((l.take i).map (numT T.length m.1) ++ l.drop i)) ∧ Below w.heap.size w wr))
    case atStart => exact ⟨0, by unfold Hid; omega, rfl, HK0⟩
    case round =>
      clear HK0
      obtain ⟨i, hi, rfl, hK⟩ := hrel
      by_cases hlt : i < L
      · obtain ⟨p, hp⟩ : ∃ p, l[i]? = some p := ⟨_, List.getElem?_eq_getElem (by rw [unhide hL]; exact hlt)⟩
        obtain ⟨eb, eo, ecap, ee, -, -, hebl, hc0⟩ := Rx.elem zL (l := l) (unhide HR) hp
        rw [unhide hL] at ee
        cases ee
        have z0 := ((unhide hK).2.cell (p := ⟨eb, eo + i * 1 + 0, none⟩) hebl).trans (hc0 0 _ rfl)
        rw [Nat.add_zero, Nat.mul_one] at z0
        have i0' : (0 : Int) ≤ (i : Int) := by omega
        have i1' : (i : Int) < (L : Int) := by omega
        have HC : Hid (∀ W, Below wr.heap.size wr W → Calls Try.prog 81 #[.pointer (some ⟨ob, 0, none⟩), .agg #[.int .i64 4, .int .i64 p]] W fun e w' => e = .returned (.agg #[.int .i64 4, .int .i64 (numT T.length m.1 p)]) ∧ Below W.heap.size W w') := fun W hW => unhide HV7 W p ((unhide hK).2.trans (hW.mono (unhide hK).2.size)) (List.mem_of_getElem? hp)
        obtain ⟨np, hnp⟩ : ∃ n, Hid (numT T.length m.1 p = n) := ⟨_, hide rfl⟩
        rw [unhide hnp] at HC
        have HP := hide hp
        clear hp hc0
        go_wp2_with fail
        refine (keyValue_any _ _).mono ?_
        rintro e w3 ⟨rfl, hb3⟩
        have HC3 := hide (unhide HC w3 hb3)
        have HB3 := hide hb3
        clear hb3 HC
        go_wp2_with fail
        refine (unhide HC3).mono ?_
        rintro e w4 ⟨rfl, hb4⟩
        have hb := bl_past (unhide HB3) hb4
        have hro2 := (unhide hK).1.fr (Fr.of_below (S := fun _ => False) hb) (fun _ _ e => e)
        obtain ⟨g, off, cap', eg, -, -, hgl, hgc⟩ := hro2.full (by omega)
        cases eg
        have fz : w4.frozen? ⟨g, off + i, none⟩ = false := hro2.free rfl _
        have y0 : ∃ u, w4.cell? ⟨g, off + i, none⟩ = some u := by
          rw [hgc i (by omega)]
          exact ⟨_, List.getElem?_eq_getElem (by rw [hro2.1]; omega)⟩
        obtain ⟨u0, y0⟩ := y0
        obtain ⟨r1, r2⟩ := hro2.putAt zL (by simp [unhide hL]; omega) (g := g) (off := off) (cap := vc) rfl (i := i) hlt np
        have hset := set_dropE (numT T.length m.1) (unhide HP)
        rw [unhide hnp] at hset
        rw [hset] at r1
        rw [show w4.setCells g (off + i * 1) (enL np) = w4.setCell ⟨g, off + i, none⟩ (.int .i64 np) by rw [Nat.mul_one]; rfl] at r1 r2
        have hgB : w.heap.size ≤ g := unhide HVB g rfl
        have hfld := fld40 4 np w4
        have HK2 : Hid (Ro (w4.setCell ⟨g, off + i, none⟩ (.int .i64 np)) 1 (.slice (some ⟨g, off, none⟩) L vc) L (flt enL ((l.take (i + 1)).map (numT T.length m.1) ++ l.drop (i + 1))) ∧ Below w.heap.size w (w4.setCell ⟨g, off + i, none⟩ (.int .i64 np))) := ⟨r1, ((unhide hK).2.trans (hb.mono (unhide hK).2.size)).trans (r2.below (Nat.le_trans (unhide hK).2.size hb.size) (fun k hk e => by omega))⟩
        clear hb4 hb hro2 hgc r1 r2 hset hK HC3 z0
        go_wp2_with fail
        go_roundg (gk - 1)
        case measure => have := unhide hi; omega
        case rel => exact ⟨i + 1, by have := unhide hi; unfold Hid; omega, by go_num, HK2⟩
      · have hiN : L = i := by have := unhide hi; omega
        subst hiN
        have HGx : Hid (Gx w 1 enL (l.map (numT T.length m.1)) (.slice va L vc) wr) := by
          have h1 := (unhide hK).1
          rw [List.take_of_length_le (by rw [unhide hL]; exact Nat.le_refl _), List.drop_eq_nil_of_le (by rw [unhide hL]; exact Nat.le_refl _), List.append_nil] at h1
          exact ⟨by rw [List.length_map, unhide hL]; exact h1, (unhide hK).2, unhide HVB⟩
        clear hK
        go_wp2_with fail
        go_ret
        exact ⟨_, rfl, unhide HGx⟩
  · rw [if_neg hk]
    simp only [hk, if_false] at HKO
    have hk2 : ((kd : Int) == 7) = false := by simpa using hk
    go_enter Try.func67, Try.ntmps67
    go_wp2_with fail
    rw [unhide hW1]
    go_wp2_with fail
    refine (unhide HCL).mono ?_
    rintro e w1 ⟨v1, rfl, hG⟩
    have nb1 := bkeep1 (unhide HNB) hG.2.1
    obtain ⟨cc, -, lb1⟩ := blk_cells nb1
    have d0 := cc 0
    have d1 := cc 1
    have d2 := cc 2
    have d3 := cc 3
    have d4 := cc 4
    have d5 := cc 5
    simp at d0 d1 d2 d3 d4 d5
    have HG := hide hG
    obtain ⟨va, vc, ev, hv1, hv2⟩ := hG.1.shape
    rw [unhide hL] at ev
    subst ev
    clear nb1 cc hG c2 HCL
    go_wp2_with fail
    refine (unhide HKO _).mono ?_
    rintro e w2 ⟨rfl, hb2⟩
    have HGx : Hid (Gx w 1 enL l (.slice va L vc) w2) := ⟨(unhide HG).1.fr (Fr.of_below (S := fun _ => False) hb2) (fun _ _ e => e), ((unhide HF1).trans ((unhide HG).2.1.mono (unhide HF1).size)).trans (hb2.mono (Nat.le_trans (unhide HF1).size (unhide HG).2.1.size)), fun k hk => Nat.le_trans (unhide HF1).size ((unhide HG).2.2 k hk)⟩
    clear hb2 HKO d0 d1 d2 d3 d4 d5
    go_wp2_with fail
    go_loopg [14] 0 (fun g t14 wr => Hid (g = 0) ∧ t14 = .int .i64 0 ∧ wr = w2)
    case atStart => exact ⟨rfl, rfl, rfl⟩
    case round =>
      obtain ⟨_, rfl, rfl⟩ := hrel
      go_wp2_with fail
      go_ret
      exact ⟨_, rfl, unhide HGx⟩
end Go.Proofs.Ytadgiccfjppnfaa
