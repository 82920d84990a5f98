/-
  FramesCallee: the law.
-/
import Derived.Test.YtfoanikkngmeiaaDcl
import Derived.Test.YtfoanikkngmeiaaLent
import Derived.Test.YtfoanikkngmeiaaKP
import Derived.Test.YtfoanikkngmeiaaApV
namespace Go.Proofs.Ytfoanikkngmeiaa
open Go.RowKit
set_option linter.unusedVariables false
set_option linter.unusedSimpArgs false
theorem fRb_bounds {o : Ob} (h : fRb o = true) : o.its.length ≤ 4096 ∧ o.keys.length ≤ 4096 := by
  unfold fRb at h
  split at h
  · simp at h; have e := h.1.1.2; rw [e]; simp; omega
  · split at h
    · simp at h; have := h.1.1.1; omega
    · split at h
      · simp at h; have e := h.1.1.2; rw [e]; simp; omega
      · split at h
        · simp at h; have e := h.1.2; rw [e]; simp; omega
        · cases h
theorem lRb_bounds {os : List Ob} (h : lRb os = true) : ∀ o ∈ os, o.its.length ≤ 4096 ∧ o.keys.length ≤ 4096 := fun o ho => by
  unfold lRb at h
  rw [List.all_eq_true] at h
  have := h o ho
  unfold oRb at this
  rw [Bool.and_eq_true] at this
  exact fRb_bounds this.1
theorem cld_len {os : List Ob} {v : Int × Int} (hS : ∀ o ∈ os, o.its.length ≤ 1048576) : ∀ k l, cld os v = some (k, l) → l.length ≤ 1048576 := fun k l h => by
  unfold cld at h
  split at h
  · cases h; simp
  · split at h
    · split at h
      · split at h
        · rename_i o ho
          split at h
          · cases h; exact hS _ (List.mem_of_getElem? ho)
          · cases h
        · cases h
      · cases h
    · cases h
theorem clR_len {p : Pg} {os : List Ob} {v : Int × Int} {n : Int} (hS : ∀ o ∈ os, o.its.length ≤ 1048576) : (clR p os v n).2.1.length ≤ 1048576 := by
  unfold clR
  split
  · simp
  · rename_i k l h
    split
    · simp
    · split
      · simp
      · exact cld_len hS k l h
theorem as2 {w : World} {u v : Value} {LR lb : Nat} {rl : List (Int × Int)} (hu : Ro w 2 u LR (flt enI rl)) (hv : Ro w 2 v LR (flt enI rl)) (hl : rl.length = LR) (hL : LR ≤ 1048576) (c0 : w.cell? ⟨lb, 0, none⟩ = some u) (c1 : w.cell? ⟨lb, 1, none⟩ = some v) (hub : ∀ b, u.ownBlock = some b → b ≠ lb) (hvb : ∀ b, v.ownBlock = some b → b ≠ lb) (hap : ∀ b, u.ownBlock = some b → v.ownBlock ≠ some b) :
    AS 2 w lb 0 (fun k => if k = 0 then u else v) (fun _ => LR) := by
  refine ⟨fun k hk => ?_, fun k hk => ?_, fun k b hk hb => ?_, fun j j' b hj hj' hn hb hb' => ?_, fun _ => hL, by omega⟩
  · match k, hk with
    | 0, _ => exact c0
    | 1, _ => exact c1
  · match k, hk with
    | 0, _ => exact ⟨rl, hl, hu⟩
    | 1, _ => exact ⟨rl, hl, hv⟩
  · match k, hk with
    | 0, _ => exact hub b hb
    | 1, _ => exact hvb b hb
  · match j, hj, j', hj' with
    | 0, _, 0, _ => exact hn rfl
    | 0, _, 1, _ => exact hap b hb hb'
    | 1, _, 0, _ => exact hap b hb' hb
    | 1, _, 1, _ => exact hn rfl
theorem sv2 {u v : Value} {k : Nat} (h : SV 2 (fun k => if k = 0 then u else v) k) : u.ownBlock = some k ∨ v.ownBlock = some k := by
  obtain ⟨j, hj, h⟩ := h
  match j, hj with
  | 0, _ => exact .inl h
  | 1, _ => exact .inr h
set_option maxRecDepth 100000 in
set_option maxHeartbeats 12800000 in
theorem calleeLaw {w : World} {pv lv : Value} {p : Pg} {os : List Ob} {x y n : Int} (hP : PgV w pv p) (hN : p.funcs.length ≤ 1048576) (hC : p.consts.length ≤ 1048576) (hBD : ∀ (i : Nat) (f : Fc), p.funcs[i]? = some f → f.code.length ≤ 1048576 ∧ f.hs.length ≤ 1048576) (hPr : ∀ f ∈ p.funcs, f.params < 9223372036854775808) (hO : OsV w lv os) (hON : os.length ≤ 1048576) (hS : ∀ o ∈ os, o.its.length ≤ 1048576 ∧ o.keys.length ≤ 1048576) :
    Calls Try.prog 3 #[pv, .agg #[lv, .int .i64 x, .int .i64 y, .int .i64 n]] w fun e w' => e = .returned (.bool true) ∧ Below w.heap.size w w' := by
  have HPV : Hid (∀ W, Below w.heap.size w W → PgV W pv p) := hide (fun W b => hP.below b (Nat.le_refl _))
  have HOV : Hid (∀ W, Below w.heap.size w W → OsV W lv os) := hide (fun W b => hO.below b (Nat.le_refl _))
  have HPR := hide hPr
  have HBD := hide hBD
  have HSS := hide hS
  obtain ⟨cv, fv, rfl, hc, hf⟩ := hP
  obtain ⟨ca, cc, rfl⟩ : ∃ a c, cv = .slice a p.consts.length c := by obtain ⟨_, a, c, e, _⟩ := hc; exact ⟨a, c, e⟩
  obtain ⟨fa, fc, rfl, _⟩ := hf.at
  obtain ⟨oa, oc, rfl, hol, hom⟩ := hO.shape
  obtain ⟨NF, hNF⟩ : ∃ n, Hid (p.funcs.length = n) := ⟨_, hide rfl⟩
  obtain ⟨NC, hNC⟩ : ∃ n, Hid (p.consts.length = n) := ⟨_, hide rfl⟩
  obtain ⟨L, hL⟩ : ∃ n, Hid (os.length = n) := ⟨_, hide rfl⟩
  have HN := hide hN
  have HC := hide hC
  have HON := hide hON
  rw [unhide hNC, unhide hNF] at HPV ⊢
  rw [unhide hL] at HOV ⊢
  have HB2 := hide (bl_two w)
  have HK2 := hide (blk2 w)
  obtain ⟨B0, hB0⟩ : ∃ b, Hid (w.heap.size = b) := ⟨_, hide rfl⟩
  clear hc hf hO hPr hBD hS hol hom hN hC hON
  go_enter Try.func3, Try.ntmps3
  go_wp2_with fail
  refine (copyOs_any (unhide HOV _ (unhide HB2 _ _)) (unhide HON) (unhide HSS)).mono ?_
  rintro e w1 ⟨lv1, xs1, rfl, O1, b1⟩
  have hw1 := bl_past (unhide HB2 _ _) b1
  have hbx : ∀ W, Below w1.heap.size w1 W → W.heap[w.heap.size]? = some (.cells #[.slice ca NC cc, .slice fa NF fc] 25) ∧ W.heap[w.heap.size + 1]? = some (.cells #[.slice oa L oc, .int .i64 x, .int .i64 y, .int .i64 n] 30) := fun W b => by
    have b2 := b1.trans (b.mono b1.size)
    obtain ⟨q1, q2⟩ := unhide HK2 (.cells #[.slice ca NC cc, .slice fa NF fc] 25) (.cells #[.slice oa L oc, .int .i64 x, .int .i64 y, .int .i64 n] 30)
    exact ⟨(b2.block _ (Array.getElem?_eq_some_iff.1 q1).1).trans q1, (b2.block _ (Array.getElem?_eq_some_iff.1 q2).1).trans q2⟩
  have HBX := hide hbx
  have HW1 := hide hw1
  obtain ⟨la, lc, rfl, _⟩ := O1.osv.shape
  have HLD := hide (load_any O1.osv (unhide HON) (unhide HSS) 1048576 0)
  rw [unhide hL] at HLD ⊢
  clear hbx hw1 b1 O1 HB2 HK2
  go_wp2_with fail
  refine (unhide HLD).mono ?_
  intro e w2 hld
  have HB12 := hide hld.1
  have HW2 : Hid (Below w.heap.size w w2) := hide (bl_past (unhide HW1) hld.1)
  obtain ⟨qc, -, ql⟩ := blk_cells (unhide HBX w2 (unhide HB12)).2
  have k0 : w2.cell? ⟨w.heap.size + 1, 0, none⟩ = some (.slice oa L oc) := (qc 0).trans rfl
  have HDL := hide (dload_any (unhide HOV w2 (unhide HW2)) (unhide HON) (unhide HSS) 1048576 0)
  clear qc HLD
  rcases hld.2 with ⟨hm, rfl⟩ | ⟨hm, h, ov, ds, rfl, H, hag, hF⟩
  · clear hld
    go_wp2_with fail
    refine (unhide HDL).mono ?_
    intro e w3 hdl
    have HB23 := hide hdl.1
    rcases hdl.2 with ⟨_, rfl⟩ | ⟨hm2, _⟩
    · clear hdl k0 HDL
      go_wp2_with fail
      refine (hp.new_any w3 0 0).mono ?_
      rintro e w4 ⟨rfl, hH, b4⟩
      have HB34 := hide b4
      have HB24 : Hid (Below w2.heap.size w2 w4) := hide (bl_past (unhide HB23) b4)
      have hq := unhide HBX w4 (bl_past (unhide HB12) (unhide HB24))
      obtain ⟨z1, z1f, z1l⟩ := blk_cells hq.1
      obtain ⟨z2, z2f, z2l⟩ := blk_cells hq.2
      have zc : w4.cell? ⟨w.heap.size + 1, 0, none⟩ = some (.slice oa L oc) := (z2 0).trans rfl
      have zf := z2f 0
      have hlo : w.heap.size + 1 < w3.heap.size := by
        have q := (unhide HBX w3 (bl_past (unhide HB12) (unhide HB23))).2
        exact (Array.getElem?_eq_some_iff.1 q).1
      have hfr : Fr (fun k => k = w.heap.size + 1) w4 (w4.setCell ⟨w.heap.size + 1, 0, none⟩ (.slice none 0 0)) := (Fr.refl (fun k => k = w.heap.size + 1) w4).setCell ⟨w.heap.size + 1, 0, none⟩ (.inr rfl) _
      have HB4 : Hid (Below w.heap.size w (w4.setCell ⟨w.heap.size + 1, 0, none⟩ (.slice none 0 0))) := hide ((bl_past (unhide HW2) (unhide HB24)).trans (hfr.below (bl_past (unhide HW2) (unhide HB24)).size (fun k hk e => by omega)))
      have hH4 : hp.Hp (w4.setCell ⟨w.heap.size + 1, 0, none⟩ (.slice none 0 0)) w3.heap.size (max 0 0) (max 0 0) (.slice none 0 0) [] := hH.keep hfr (fun k hk e => by
        rcases hk.cases with e2 | e2 | ⟨i, o, ho, _⟩
        · omega
        · simp [Value.ownBlock] at e2
        · simp at ho)
      have hsz : (w4.setCell ⟨w.heap.size + 1, 0, none⟩ (.slice none 0 0)).heap.size = w4.heap.size := by simp [World.setCell]
      have HCE : Hid (∀ W, Below (w4.setCell ⟨w.heap.size + 1, 0, none⟩ (.slice none 0 0)).heap.size (w4.setCell ⟨w.heap.size + 1, 0, none⟩ (.slice none 0 0)) W → W.cell? ⟨w.heap.size, 0, none⟩ = some (.slice ca NC cc) ∧ W.cell? ⟨w.heap.size, 1, none⟩ = some (.slice fa NF fc) ∧ w.heap.size < W.heap.size ∧ W.cell? ⟨w.heap.size + 1, 0, none⟩ = some (.slice none 0 0) ∧ W.cell? ⟨w.heap.size + 1, 1, none⟩ = some (.int .i64 x) ∧ W.cell? ⟨w.heap.size + 1, 2, none⟩ = some (.int .i64 y) ∧ W.cell? ⟨w.heap.size + 1, 3, none⟩ = some (.int .i64 n) ∧ w.heap.size + 1 < W.heap.size) := hide (fun W b => by
        have bs := b.size
        have c0 : ∀ j u, w4.cell? ⟨w.heap.size, j, none⟩ = some u → W.cell? ⟨w.heap.size, j, none⟩ = some u := fun j u hu => (b.cell (p := ⟨w.heap.size, j, none⟩) (by show w.heap.size < _; omega)).trans ((World.cell?_setCell_far w4 _ _ _ (by show w.heap.size + 1 ≠ w.heap.size; omega)).trans hu)
        have c1 : ∀ j u, j ≠ 0 → w4.cell? ⟨w.heap.size + 1, j, none⟩ = some u → W.cell? ⟨w.heap.size + 1, j, none⟩ = some u := fun j u hj hu => (b.cell (p := ⟨w.heap.size + 1, j, none⟩) (by show w.heap.size + 1 < _; omega)).trans ((World.cell?_setCell_other _ _ _ _ (fun e => hj (congrArg Addr.off e).symm)).trans hu)
        exact ⟨c0 0 _ ((z1 0).trans rfl), c0 1 _ ((z1 1).trans rfl), by omega, (b.cell (p := ⟨w.heap.size + 1, 0, none⟩) (by show w.heap.size + 1 < _; omega)).trans (World.cell?_setCell_same _ _ _ zc), c1 1 _ (by decide) ((z2 1).trans rfl), c1 2 _ (by decide) ((z2 2).trans rfl), c1 3 _ (by decide) ((z2 3).trans rfl), by omega⟩)
      obtain ⟨bb, ss, ds, os2, hH2, hds, hos2⟩ : ∃ bb ss, ∃ (ds : List hp.OD) (os2 : List Ob), Hid (hp.Hp (w4.setCell ⟨w.heap.size + 1, 0, none⟩ (.slice none 0 0)) w3.heap.size bb ss (.slice none 0 0) ds) ∧ Hid (ds = []) ∧ Hid (os2 = []) := ⟨_, _, [], [], hide hH4, hide rfl, hide rfl⟩
      obtain ⟨h, hh⟩ : ∃ z, Hid (w3.heap.size = z) := ⟨_, hide rfl⟩
      rw [unhide hh] at hH2 ⊢
      have HH4 := hH2
      have HAG : Hid (ds.map (·.ob) = os2) := hide (by rw [unhide hds, unhide hos2]; rfl)
      have HSd : Hid (∀ d ∈ ds, d.its.length ≤ 4096 ∧ d.keys.length ≤ 4096) := hide (by rw [unhide hds]; simp)
      have HSI : Hid (∀ o ∈ os2, o.its.length ≤ 1048576) := hide (by rw [unhide hos2]; simp)
      have HON2 : Hid (os2.length ≤ 1048576) := hide (by rw [unhide hos2]; simp)
      have HO4 : Hid (OsV (w4.setCell ⟨w.heap.size + 1, 0, none⟩ (.slice none 0 0)) (.slice none 0 0) os2) := hide (by rw [unhide hos2]; exact OsV.nil _)
      have HDL2 : Hid (ds.length = 0) := hide (by rw [unhide hds]; rfl)
      clear hH hH4 hH2 b4 hq z1 z1f z1l z2 z2f hfr hsz hlo
      have HPW : Hid (∀ W, Below (w4.setCell ⟨w.heap.size + 1, 0, none⟩ (.slice none 0 0)).heap.size (w4.setCell ⟨w.heap.size + 1, 0, none⟩ (.slice none 0 0)) W → PgV W (.agg #[.slice ca NC cc, .slice fa NF fc]) p) := hide (fun W b => unhide HPV W (bl_past (unhide HB4) b))
      have HL8 : Hid (Calls Try.prog 8 #[.agg #[.slice ca NC cc, .slice fa NF fc]] (w4.setCell ⟨w.heap.size + 1, 0, none⟩ (.slice none 0 0)) fun e w' => ∃ cg co ccap fg fo fcap ys, e = .returned (.agg #[.slice (some ⟨cg, co, none⟩) NC ccap, .slice (some ⟨fg, fo, none⟩) NF fcap]) ∧ Lnt (w4.setCell ⟨w.heap.size + 1, 0, none⟩ (.slice none 0 0)) p cg co ccap fg fo fcap ys w') := hide (by
        have := lent_any (unhide HPW (w4.setCell ⟨w.heap.size + 1, 0, none⟩ (.slice none 0 0)) (Below.refl _ _)) (unhide HN) (unhide HC) (unhide HBD)
        rw [unhide hNC, unhide hNF] at this
        exact this)
      obtain ⟨p0, p1, pl, e0, e1, e2, e3, el⟩ := unhide HCE (w4.setCell ⟨w.heap.size + 1, 0, none⟩ (.slice none 0 0)) (Below.refl _ _)
      go_wp2_with fail
      refine (unhide HL8).mono ?_
      rintro e w5 ⟨cg, co, ccap, fg, fo, fcap, ys, rfl, hlt⟩
      have HLT := hide hlt
      have HB45 := hide hlt.below
      clear hlt HL8
      have HB55 : Hid (Below w5.heap.size w5 (w5.alloc (.cells #[.slice (some ⟨cg, co, none⟩) NC ccap, .slice (some ⟨fg, fo, none⟩) NF fcap] 25))) := hide (bl_box _ _)
      have HB5 : Hid (Below (w4.setCell ⟨w.heap.size + 1, 0, none⟩ (.slice none 0 0)).heap.size (w4.setCell ⟨w.heap.size + 1, 0, none⟩ (.slice none 0 0)) (w5.alloc (.cells #[.slice (some ⟨cg, co, none⟩) NC ccap, .slice (some ⟨fg, fo, none⟩) NF fcap] 25))) := hide (bl_past (unhide HB45) (unhide HB55))
      have HQC : Hid (∀ W, Below (w5.alloc (.cells #[.slice (some ⟨cg, co, none⟩) NC ccap, .slice (some ⟨fg, fo, none⟩) NF fcap] 25)).heap.size (w5.alloc (.cells #[.slice (some ⟨cg, co, none⟩) NC ccap, .slice (some ⟨fg, fo, none⟩) NF fcap] 25)) W → W.cell? ⟨w5.heap.size, 0, none⟩ = some (.slice (some ⟨cg, co, none⟩) NC ccap) ∧ W.cell? ⟨w5.heap.size, 1, none⟩ = some (.slice (some ⟨fg, fo, none⟩) NF fcap) ∧ w5.heap.size < W.heap.size) := hide (fun W b => by
        have q := heap_alloc_new w5 (.cells #[.slice (some ⟨cg, co, none⟩) NC ccap, .slice (some ⟨fg, fo, none⟩) NF fcap] 25)
        obtain ⟨z1, _, zl⟩ := blk_cells ((b.block _ (Array.getElem?_eq_some_iff.1 q).1).trans q)
        exact ⟨(z1 0).trans rfl, (z1 1).trans rfl, zl⟩)
      have HH5 : Hid (∀ W, Below (w5.alloc (.cells #[.slice (some ⟨cg, co, none⟩) NC ccap, .slice (some ⟨fg, fo, none⟩) NF fcap] 25)).heap.size (w5.alloc (.cells #[.slice (some ⟨cg, co, none⟩) NC ccap, .slice (some ⟨fg, fo, none⟩) NF fcap] 25)) W → hp.Hp W h bb ss (.slice none 0 0) ds) := hide (fun W b => (unhide HH4).below (bl_past (unhide HB5) b))
      have HO5 : Hid (∀ W, Below (w5.alloc (.cells #[.slice (some ⟨cg, co, none⟩) NC ccap, .slice (some ⟨fg, fo, none⟩) NF fcap] 25)).heap.size (w5.alloc (.cells #[.slice (some ⟨cg, co, none⟩) NC ccap, .slice (some ⟨fg, fo, none⟩) NF fcap] 25)) W → OsV W (.slice none 0 0) os2) := hide (fun W b => (unhide HO4).below (bl_past (unhide HB5) b) (Nat.le_refl _))
      have HQP : Hid (∀ W, Below (w5.alloc (.cells #[.slice (some ⟨cg, co, none⟩) NC ccap, .slice (some ⟨fg, fo, none⟩) NF fcap] 25)).heap.size (w5.alloc (.cells #[.slice (some ⟨cg, co, none⟩) NC ccap, .slice (some ⟨fg, fo, none⟩) NF fcap] 25)) W → PgV W (.agg #[.slice (some ⟨cg, co, none⟩) NC ccap, .slice (some ⟨fg, fo, none⟩) NF fcap]) p) := hide (fun W b => by
        have := ((unhide HLT).keep (bl_past (unhide HB55) b)).pgv
        rw [unhide hNC, unhide hNF] at this
        exact this)
      have HP5 : Hid (∀ W, Below (w5.alloc (.cells #[.slice (some ⟨cg, co, none⟩) NC ccap, .slice (some ⟨fg, fo, none⟩) NF fcap] 25)).heap.size (w5.alloc (.cells #[.slice (some ⟨cg, co, none⟩) NC ccap, .slice (some ⟨fg, fo, none⟩) NF fcap] 25)) W → PgV W (.agg #[.slice ca NC cc, .slice fa NF fc]) p) := hide (fun W b => unhide HPW W (bl_past (unhide HB5) b))
      obtain ⟨r1, rl, r3, hr⟩ : ∃ a b c, Hid (clR p os2 (x, y) n = (a, b, c)) := ⟨_, _, _, hide rfl⟩
      obtain ⟨LR, hLR⟩ : ∃ z, Hid (rl.length = z) := ⟨_, hide rfl⟩
      have hLRN : LR ≤ 1048576 := by
        have := clR_len (p := p) (v := (x, y)) (n := n) (unhide HSI)
        rw [unhide hr] at this
        simp only at this
        rw [unhide hLR] at this
        exact this
      have HD9 : Hid (∀ W, Below (w5.alloc (.cells #[.slice (some ⟨cg, co, none⟩) NC ccap, .slice (some ⟨fg, fo, none⟩) NF fcap] 25)).heap.size (w5.alloc (.cells #[.slice (some ⟨cg, co, none⟩) NC ccap, .slice (some ⟨fg, fo, none⟩) NF fcap] 25)) W → Calls Try.prog 9 #[.agg #[.slice ca NC cc, .slice fa NF fc], .slice none 0 0, .agg #[.int .i64 x, .int .i64 y], .int .i64 n] W fun e w' => ∃ a c, e = .returned (.tuple #[.int .i64 r1, .slice a LR c, .int .i64 r3]) ∧ Gx W 2 enI rl (.slice a LR c) w') := hide (fun W b => by
        have := dcallee_any (x := x) (y := y) (unhide HO5 W b) (unhide HON2) (unhide HSI) (unhide HP5 W b) (unhide HN) (unhide HPR) n
        rw [unhide hr] at this
        refine this.mono ?_
        rintro e w' ⟨a, c, rfl, g⟩
        simp only at g ⊢
        rw [unhide hLR] at g ⊢
        exact ⟨a, c, rfl, g⟩)
      have HD10 : Hid (∀ W, Below (w5.alloc (.cells #[.slice (some ⟨cg, co, none⟩) NC ccap, .slice (some ⟨fg, fo, none⟩) NF fcap] 25)).heap.size (w5.alloc (.cells #[.slice (some ⟨cg, co, none⟩) NC ccap, .slice (some ⟨fg, fo, none⟩) NF fcap] 25)) W → Calls Try.prog 10 #[.agg #[.slice (some ⟨cg, co, none⟩) NC ccap, .slice (some ⟨fg, fo, none⟩) NF fcap], .pointer (some ⟨h, 0, none⟩), .agg #[.int .i64 x, .int .i64 y], .int .i64 n] W fun e w' => ∃ a c, e = .returned (.tuple #[.int .i64 r1, .slice a LR c, .int .i64 r3]) ∧ Gx W 2 enI rl (.slice a LR c) w') := hide (fun W b => by
        have := callee_any (x := x) (y := y) (unhide HH5 W b) (unhide HAG) (unhide HSd) (unhide HQP W b) (unhide HN) (unhide HPR) (cld_len (unhide HSI)) n
        rw [unhide hr] at this
        refine this.mono ?_
        rintro e w' ⟨a, c, rfl, g⟩
        simp only at g ⊢
        rw [unhide hLR] at g ⊢
        exact ⟨a, c, rfl, g⟩)
      have HKP : Hid (∀ W, Below (w5.alloc (.cells #[.slice (some ⟨cg, co, none⟩) NC ccap, .slice (some ⟨fg, fo, none⟩) NF fcap] 25)).heap.size (w5.alloc (.cells #[.slice (some ⟨cg, co, none⟩) NC ccap, .slice (some ⟨fg, fo, none⟩) NF fcap] 25)) W → Calls Try.prog 11 #[.agg #[.slice (some ⟨cg, co, none⟩) NC ccap, .slice (some ⟨fg, fo, none⟩) NF fcap], .agg #[.slice ca NC cc, .slice fa NF fc]] W fun e w' => e = .returned (.bool true) ∧ Below W.heap.size W w') := hide (fun W b => by
        have := keptP_any ((unhide HLT).keep (bl_past (unhide HB55) b)) (unhide HP5 W b) (unhide HN) (unhide HC) (unhide HBD)
        rw [unhide hNC, unhide hNF] at this
        exact this)
      have HSV : Hid (∀ (W : World) (u v : Value), Ro W 2 u LR (flt enI rl) → Ro W 2 v LR (flt enI rl) → Calls Try.prog 12 #[u, v] W fun e w' => e = .returned (.bool true) ∧ Below W.heap.size W w') := hide (fun W u v hu hv => by
        have := smV_any (l := rl) (m := rl) (by rw [unhide hLR]; exact Rx.of_ro hu) (by rw [unhide hLR]; exact Rx.of_ro hv) (by rw [unhide hLR]; omega)
        rw [Dc_true rfl] at this
        exact this)
      have HCF : Hid (∀ W, Below (w5.alloc (.cells #[.slice (some ⟨cg, co, none⟩) NC ccap, .slice (some ⟨fg, fo, none⟩) NF fcap] 25)).heap.size (w5.alloc (.cells #[.slice (some ⟨cg, co, none⟩) NC ccap, .slice (some ⟨fg, fo, none⟩) NF fcap] 25)) W → W.cell? ⟨w.heap.size, 0, none⟩ = some (.slice ca NC cc) ∧ W.cell? ⟨w.heap.size, 1, none⟩ = some (.slice fa NF fc) ∧ w.heap.size < W.heap.size ∧ W.cell? ⟨w.heap.size + 1, 0, none⟩ = some (.slice none 0 0) ∧ W.cell? ⟨w.heap.size + 1, 1, none⟩ = some (.int .i64 x) ∧ W.cell? ⟨w.heap.size + 1, 2, none⟩ = some (.int .i64 y) ∧ W.cell? ⟨w.heap.size + 1, 3, none⟩ = some (.int .i64 n) ∧ w.heap.size + 1 < W.heap.size) := hide (fun W b => unhide HCE W (bl_past (unhide HB5) b))
      have HBW : Hid (∀ W, Below (w5.alloc (.cells #[.slice (some ⟨cg, co, none⟩) NC ccap, .slice (some ⟨fg, fo, none⟩) NF fcap] 25)).heap.size (w5.alloc (.cells #[.slice (some ⟨cg, co, none⟩) NC ccap, .slice (some ⟨fg, fo, none⟩) NF fcap] 25)) W → Below w.heap.size w W) := hide (fun W b => bl_past (bl_past (unhide HB4) (unhide HB5)) b)
      clear p0 p1 pl e0 e1 e2 e3 el HCE HPW HLT HB45
      obtain ⟨p0, p1, pl, e0, e1, e2, e3, el⟩ := unhide HCF (w5.alloc (.cells #[.slice (some ⟨cg, co, none⟩) NC ccap, .slice (some ⟨fg, fo, none⟩) NF fcap] 25)) (Below.refl _ _)
      go_wp2_with fail
      refine (unhide HD9 _ (Below.refl _ _)).mono ?_
      rintro e w6 ⟨a6, c6, rfl, g6⟩
      have HB6 : Hid (Below (w5.alloc (.cells #[.slice (some ⟨cg, co, none⟩) NC ccap, .slice (some ⟨fg, fo, none⟩) NF fcap] 25)).heap.size (w5.alloc (.cells #[.slice (some ⟨cg, co, none⟩) NC ccap, .slice (some ⟨fg, fo, none⟩) NF fcap] 25)) w6) := hide g6.2.1
      have HR6 := hide g6.1
      rw [unhide hLR] at HR6
      clear g6 p0 p1 pl e0 e1 e2 e3 el
      obtain ⟨p0, p1, pl, e0, e1, e2, e3, el⟩ := unhide HCF w6 (unhide HB6)
      obtain ⟨q0, q1, ql5⟩ := unhide HQC w6 (unhide HB6)
      go_wp2_with fail
      refine (unhide HD10 _ (unhide HB6)).mono ?_
      rintro e w7 ⟨a7, c7, rfl, g7⟩
      have HB67 := hide g7.2.1
      have HB7 : Hid (Below (w5.alloc (.cells #[.slice (some ⟨cg, co, none⟩) NC ccap, .slice (some ⟨fg, fo, none⟩) NF fcap] 25)).heap.size (w5.alloc (.cells #[.slice (some ⟨cg, co, none⟩) NC ccap, .slice (some ⟨fg, fo, none⟩) NF fcap] 25)) w7) := hide (bl_past (unhide HB6) g7.2.1)
      have HG7 := hide g7.2.2
      have HR7 := hide g7.1
      rw [unhide hLR] at HR7
      clear g7 p0 p1 pl e0 e1 e2 e3 el q0 q1 ql5
      obtain ⟨p0, p1, pl, e0, e1, e2, e3, el⟩ := unhide HCF w7 (unhide HB7)
      obtain ⟨q0, q1, ql5⟩ := unhide HQC w7 (unhide HB7)
      go_wp2_with fail
      refine (unhide HD10 _ (unhide HB7)).mono ?_
      rintro e w8 ⟨a8, c8, rfl, g8⟩
      have HB78 := hide g8.2.1
      have HB8 : Hid (Below (w5.alloc (.cells #[.slice (some ⟨cg, co, none⟩) NC ccap, .slice (some ⟨fg, fo, none⟩) NF fcap] 25)).heap.size (w5.alloc (.cells #[.slice (some ⟨cg, co, none⟩) NC ccap, .slice (some ⟨fg, fo, none⟩) NF fcap] 25)) w8) := hide (bl_past (unhide HB7) g8.2.1)
      have HG8 := hide g8.2.2
      have HR8 := hide g8.1
      rw [unhide hLR] at HR8
      clear g8 p0 p1 pl e0 e1 e2 e3 el q0 q1 ql5
      obtain ⟨p0, p1, pl, e0, e1, e2, e3, el⟩ := unhide HCF w8 (unhide HB8)
      obtain ⟨q0, q1, ql5⟩ := unhide HQC w8 (unhide HB8)
      have dr1 : (r1 != r1) = false := by simp
      have dr3 : (r3 != r3) = false := by simp
      go_wp2_with fail
      refine (unhide HKP _ (unhide HB8)).mono ?_
      rintro e w9 ⟨rfl, b9⟩
      have HB89 := hide b9
      have HB9 : Hid (Below (w5.alloc (.cells #[.slice (some ⟨cg, co, none⟩) NC ccap, .slice (some ⟨fg, fo, none⟩) NF fcap] 25)).heap.size (w5.alloc (.cells #[.slice (some ⟨cg, co, none⟩) NC ccap, .slice (some ⟨fg, fo, none⟩) NF fcap] 25)) w9) := hide (bl_past (unhide HB8) b9)
      have HU : Hid (∀ W, Below w9.heap.size w9 W → Ro W 2 (.slice a6 LR c6) LR (flt enI rl) ∧ Ro W 2 (.slice a7 LR c7) LR (flt enI rl) ∧ Ro W 2 (.slice a8 LR c8) LR (flt enI rl)) := hide (fun W b => by
        have b8 := bl_past (unhide HB89) b
        have b7 := bl_past (unhide HB78) b8
        have b6 := bl_past (unhide HB67) b7
        exact ⟨(unhide HR6).fr (Fr.of_below (S := fun _ => False) b6) (fun _ _ e => e), (unhide HR7).fr (Fr.of_below (S := fun _ => False) b7) (fun _ _ e => e), (unhide HR8).fr (Fr.of_below (S := fun _ => False) b8) (fun _ _ e => e)⟩)
      clear b9 p0 p1 pl e0 e1 e2 e3 el q0 q1 ql5
      go_wp2_with fail
      refine (unhide HSV w9 _ _ (unhide HU w9 (Below.refl _ _)).2.1 (unhide HU w9 (Below.refl _ _)).1).mono ?_
      rintro e w10 ⟨rfl, b10⟩
      have HB910 := hide b10
      clear b10
      go_wp2_with fail
      refine (unhide HSV w10 _ _ (unhide HU w10 (unhide HB910)).2.2 (unhide HU w10 (unhide HB910)).1).mono ?_
      rintro e w11 ⟨rfl, b11⟩
      have HB911 : Hid (Below w9.heap.size w9 w11) := hide (bl_past (unhide HB910) b11)
      clear b11
      have HAP : Hid (∀ ty, Calls Try.prog 13 #[.slice (some ⟨w11.heap.size, 0, none⟩) 2 2] (w11.alloc (.cells #[.slice a7 LR c7, .slice a8 LR c8] ty)) fun e w' => e = .returned (.bool true) ∧ Below (w5.alloc (.cells #[.slice (some ⟨cg, co, none⟩) NC ccap, .slice (some ⟨fg, fo, none⟩) NF fcap] 25)).heap.size (w5.alloc (.cells #[.slice (some ⟨cg, co, none⟩) NC ccap, .slice (some ⟨fg, fo, none⟩) NF fcap] 25)) w') := hide (fun ty => by
        have hx := bl_box w11 (.cells #[.slice a7 LR c7, .slice a8 LR c8] ty)
        have b9 := bl_past (unhide HB911) hx
        obtain ⟨_, h7, h8⟩ := unhide HU _ b9
        have l7 := (unhide HR7).lt
        have l8 := (unhide HR8).lt
        have ge7 := unhide HG7
        have ge8 := unhide HG8
        have s8 := (unhide HB78).size
        have s9 := (unhide HB89).size
        have s11 := (unhide HB911).size
        have s6 := (unhide HB6).size
        have s67 := (unhide HB67).size
        have n0 := new_cells w11 #[.slice a7 LR c7, .slice a8 LR c8] ty 0 _ rfl
        have n1 := new_cells w11 #[.slice a7 LR c7, .slice a8 LR c8] ty 1 _ rfl
        rw [Go.WideShapes.add_plain, Nat.zero_add] at n0 n1
        refine (apartV 2 _ w11.heap.size 0 2 _ _ (as2 (lb := w11.heap.size) h7 h8 (unhide hLR) hLRN n0 n1 (fun b hb => by have := l7 b hb; omega) (fun b hb => by have := l8 b hb; omega) (fun b hb hb' => by have := l7 b hb; have := ge8 b hb'; omega))).mono ?_
        rintro e w' ⟨rfl, f⟩
        have b5 := bl_past (unhide HB9) b9
        refine ⟨rfl, b5.trans (f.below b5.size (fun k hk q => ?_))⟩
        rcases sv2 q with q | q
        · have := ge7 k q; omega
        · have := ge8 k q; omega)
      go_wp2_with fail
      refine (unhide HAP _).mono ?_
      rintro e w12 ⟨rfl, b12⟩
      have HB12' := hide b12
      clear b12 HAP HU HR6 HR7 HR8 HG7 HG8 HB67 HB78 HB89 HB910 HB911 HSV HKP HD9 HD10
      have hd12 : ((0 : Int) != (0 : Int)) = false := by simp
      have HBN : Hid (∀ m, Below (w5.alloc (.cells #[.slice (some ⟨cg, co, none⟩) NC ccap, .slice (some ⟨fg, fo, none⟩) NF fcap] 25)).heap.size (w5.alloc (.cells #[.slice (some ⟨cg, co, none⟩) NC ccap, .slice (some ⟨fg, fo, none⟩) NF fcap] 25)) (w12.drewN m)) := hide (fun m => bl_past (unhide HB12') (bl_drewN w12 m))
      have HLE : Hid (∀ m, Calls Try.prog 14 #[.pointer (some ⟨h, 0, none⟩)] (w12.drewN m) fun e w' => e = .returned (.int .i64 (0 : Int)) ∧ w' = w12.drewN m) := hide (fun m => by
        have := hp.len_any (unhide HH5 _ (unhide HBN m))
        rw [unhide HDL2] at this
        exact this)
      obtain ⟨p0, p1, pl, e0, e1, e2, e3, el⟩ := unhide HCF w12 (unhide HB12')
      go_wp2_with fail
      go_quiet (first | (go_at_call 14; exact Calls.quiet_of_same (unhide HLE _)))
      have hb13 := unhide HBN nq
      generalize w12.drewN nq = w13 at *
      have HB13 := hide hb13
      clear hb13 HBN HLE p0 p1 pl e0 e1 e2 e3 el
      go_wp2_with fail
      go_loopg [19, 20, 21] 0 (fun gg t19 t20 t21 wr => ∃ (i : Nat), Hid (i + gg = 0) ∧ t19 = .int .i64 (i : Int) ∧ Hid (Below (w5.alloc (.cells #[.slice (some ⟨cg, co, none⟩) NC ccap, .slice (some ⟨fg, fo, none⟩) NF fcap] 25)).heap.size (w5.alloc (.cells #[.slice (some ⟨cg, co, none⟩) NC ccap, .slice (some ⟨fg, fo, none⟩) NF fcap] 25)) wr))
      case atStart => exact ⟨0, by unfold Hid; omega, rfl, HB13⟩
      case round =>
        obtain ⟨i, hi, rfl, hG⟩ := hrel
        obtain ⟨-, -, -, e0, -, -, -, el⟩ := unhide HCF wr (unhide hG)
        by_cases hlt : i < 0
        · exact absurd hlt (by omega)
        · have hiL : ¬ (i : Int) < (0 : Int) := by omega
          have HE := hide (unhide HBW wr (unhide hG))
          go_wp2_with fail
          go_ret
          exact ⟨rfl, unhide HE⟩
    · rw [hm] at hm2; cases hm2
  · clear hld
    go_wp2_with fail
    refine (unhide HDL).mono ?_
    intro e W4 hdl
    have HB24 := hide hdl.1
    rcases hdl.2 with ⟨hm2, _⟩ | ⟨_, r, rv, xs, rfl, R⟩
    · rw [hm] at hm2; cases hm2
    · clear hdl k0 HDL R xs
      have HB4 : Hid (Below w.heap.size w W4) := hide (bl_past (unhide HW2) (unhide HB24))
      have HH4 : Hid (hp.Hp W4 h (max 1048576 0) (max 0 0) ov ds) := hide (H.below (unhide HB24))
      have HSd : Hid (∀ d ∈ ds, d.its.length ≤ 4096 ∧ d.keys.length ≤ 4096) := hide (fun d hd => lRb_bounds hm d.ob (by rw [← hag]; exact List.mem_map_of_mem hd))
      obtain ⟨bb, ss, os2, hH2, hag2, hos2⟩ : ∃ bb ss os2, Hid (hp.Hp W4 h bb ss ov ds) ∧ Hid (ds.map (·.ob) = os2) ∧ Hid (os = os2) := ⟨_, _, os, HH4, hide hag, hide rfl⟩
      have HAG := hag2
      have HSI : Hid (∀ o ∈ os2, o.its.length ≤ 1048576) := hide (fun o ho => by rw [← unhide hos2] at ho; exact (unhide HSS o ho).1)
      have HON2 : Hid (os2.length ≤ 1048576) := hide (by rw [← unhide hos2]; exact unhide HON)
      clear HH4
      have HH4 := hH2
      clear hH2 hag2
      obtain ⟨oa2, hoa2⟩ : ∃ z, Hid (oa = z) := ⟨_, hide rfl⟩
      obtain ⟨oc2, hoc2⟩ : ∃ z, Hid (oc = z) := ⟨_, hide rfl⟩
      obtain ⟨L2, hL2⟩ : ∃ z, Hid (L = z) := ⟨_, hide rfl⟩
      have HO4 : Hid (OsV W4 (.slice oa2 L2 oc2) os2) := hide (by rw [← unhide hoa2, ← unhide hoc2, ← unhide hL2, ← unhide hos2]; exact unhide HOV W4 (unhide HB4))
      have HDL2 : Hid (ds.length = L2) := hide (by
        have := congrArg List.length hag
        rw [List.length_map, unhide hL, unhide hL2] at this
        exact this)
      clear H hag hF
      have HCE : Hid (∀ W, Below W4.heap.size W4 W → W.cell? ⟨w.heap.size, 0, none⟩ = some (.slice ca NC cc) ∧ W.cell? ⟨w.heap.size, 1, none⟩ = some (.slice fa NF fc) ∧ w.heap.size < W.heap.size ∧ W.cell? ⟨w.heap.size + 1, 0, none⟩ = some (.slice oa2 L2 oc2) ∧ W.cell? ⟨w.heap.size + 1, 1, none⟩ = some (.int .i64 x) ∧ W.cell? ⟨w.heap.size + 1, 2, none⟩ = some (.int .i64 y) ∧ W.cell? ⟨w.heap.size + 1, 3, none⟩ = some (.int .i64 n) ∧ w.heap.size + 1 < W.heap.size) := hide (fun W b => by
        obtain ⟨q1, q2⟩ := unhide HBX W (bl_past (unhide HB12) (bl_past (unhide HB24) b))
        obtain ⟨z1, _, zl⟩ := blk_cells q1
        obtain ⟨z2, _, zm⟩ := blk_cells q2
        rw [← unhide hoa2, ← unhide hoc2, ← unhide hL2]
        exact ⟨(z1 0).trans rfl, (z1 1).trans rfl, zl, (z2 0).trans rfl, (z2 1).trans rfl, (z2 2).trans rfl, (z2 3).trans rfl, zm⟩)
      have HPW : Hid (∀ W, Below W4.heap.size W4 W → PgV W (.agg #[.slice ca NC cc, .slice fa NF fc]) p) := hide (fun W b => unhide HPV W (bl_past (unhide HB4) b))
      have HL8 : Hid (Calls Try.prog 8 #[.agg #[.slice ca NC cc, .slice fa NF fc]] W4 fun e w' => ∃ cg co ccap fg fo fcap ys, e = .returned (.agg #[.slice (some ⟨cg, co, none⟩) NC ccap, .slice (some ⟨fg, fo, none⟩) NF fcap]) ∧ Lnt W4 p cg co ccap fg fo fcap ys w') := hide (by
        have := lent_any (unhide HPW W4 (Below.refl _ _)) (unhide HN) (unhide HC) (unhide HBD)
        rw [unhide hNC, unhide hNF] at this
        exact this)
      obtain ⟨p0, p1, pl, e0, e1, e2, e3, el⟩ := unhide HCE W4 (Below.refl _ _)
      go_wp2_with fail
      refine (unhide HL8).mono ?_
      rintro e w5 ⟨cg, co, ccap, fg, fo, fcap, ys, rfl, hlt⟩
      have HLT := hide hlt
      have HB45 := hide hlt.below
      clear hlt HL8
      have HB55 : Hid (Below w5.heap.size w5 (w5.alloc (.cells #[.slice (some ⟨cg, co, none⟩) NC ccap, .slice (some ⟨fg, fo, none⟩) NF fcap] 25))) := hide (bl_box _ _)
      have HB5 : Hid (Below W4.heap.size W4 (w5.alloc (.cells #[.slice (some ⟨cg, co, none⟩) NC ccap, .slice (some ⟨fg, fo, none⟩) NF fcap] 25))) := hide (bl_past (unhide HB45) (unhide HB55))
      have HQC : Hid (∀ W, Below (w5.alloc (.cells #[.slice (some ⟨cg, co, none⟩) NC ccap, .slice (some ⟨fg, fo, none⟩) NF fcap] 25)).heap.size (w5.alloc (.cells #[.slice (some ⟨cg, co, none⟩) NC ccap, .slice (some ⟨fg, fo, none⟩) NF fcap] 25)) W → W.cell? ⟨w5.heap.size, 0, none⟩ = some (.slice (some ⟨cg, co, none⟩) NC ccap) ∧ W.cell? ⟨w5.heap.size, 1, none⟩ = some (.slice (some ⟨fg, fo, none⟩) NF fcap) ∧ w5.heap.size < W.heap.size) := hide (fun W b => by
        have q := heap_alloc_new w5 (.cells #[.slice (some ⟨cg, co, none⟩) NC ccap, .slice (some ⟨fg, fo, none⟩) NF fcap] 25)
        obtain ⟨z1, _, zl⟩ := blk_cells ((b.block _ (Array.getElem?_eq_some_iff.1 q).1).trans q)
        exact ⟨(z1 0).trans rfl, (z1 1).trans rfl, zl⟩)
      have HH5 : Hid (∀ W, Below (w5.alloc (.cells #[.slice (some ⟨cg, co, none⟩) NC ccap, .slice (some ⟨fg, fo, none⟩) NF fcap] 25)).heap.size (w5.alloc (.cells #[.slice (some ⟨cg, co, none⟩) NC ccap, .slice (some ⟨fg, fo, none⟩) NF fcap] 25)) W → hp.Hp W h bb ss ov ds) := hide (fun W b => (unhide HH4).below (bl_past (unhide HB5) b))
      have HO5 : Hid (∀ W, Below (w5.alloc (.cells #[.slice (some ⟨cg, co, none⟩) NC ccap, .slice (some ⟨fg, fo, none⟩) NF fcap] 25)).heap.size (w5.alloc (.cells #[.slice (some ⟨cg, co, none⟩) NC ccap, .slice (some ⟨fg, fo, none⟩) NF fcap] 25)) W → OsV W (.slice oa2 L2 oc2) os2) := hide (fun W b => (unhide HO4).below (bl_past (unhide HB5) b) (Nat.le_refl _))
      have HQP : Hid (∀ W, Below (w5.alloc (.cells #[.slice (some ⟨cg, co, none⟩) NC ccap, .slice (some ⟨fg, fo, none⟩) NF fcap] 25)).heap.size (w5.alloc (.cells #[.slice (some ⟨cg, co, none⟩) NC ccap, .slice (some ⟨fg, fo, none⟩) NF fcap] 25)) W → PgV W (.agg #[.slice (some ⟨cg, co, none⟩) NC ccap, .slice (some ⟨fg, fo, none⟩) NF fcap]) p) := hide (fun W b => by
        have := ((unhide HLT).keep (bl_past (unhide HB55) b)).pgv
        rw [unhide hNC, unhide hNF] at this
        exact this)
      have HP5 : Hid (∀ W, Below (w5.alloc (.cells #[.slice (some ⟨cg, co, none⟩) NC ccap, .slice (some ⟨fg, fo, none⟩) NF fcap] 25)).heap.size (w5.alloc (.cells #[.slice (some ⟨cg, co, none⟩) NC ccap, .slice (some ⟨fg, fo, none⟩) NF fcap] 25)) W → PgV W (.agg #[.slice ca NC cc, .slice fa NF fc]) p) := hide (fun W b => unhide HPW W (bl_past (unhide HB5) b))
      obtain ⟨r1, rl, r3, hr⟩ : ∃ a b c, Hid (clR p os2 (x, y) n = (a, b, c)) := ⟨_, _, _, hide rfl⟩
      obtain ⟨LR, hLR⟩ : ∃ z, Hid (rl.length = z) := ⟨_, hide rfl⟩
      have hLRN : LR ≤ 1048576 := by
        have := clR_len (p := p) (v := (x, y)) (n := n) (unhide HSI)
        rw [unhide hr] at this
        simp only at this
        rw [unhide hLR] at this
        exact this
      have HD9 : Hid (∀ W, Below (w5.alloc (.cells #[.slice (some ⟨cg, co, none⟩) NC ccap, .slice (some ⟨fg, fo, none⟩) NF fcap] 25)).heap.size (w5.alloc (.cells #[.slice (some ⟨cg, co, none⟩) NC ccap, .slice (some ⟨fg, fo, none⟩) NF fcap] 25)) W → Calls Try.prog 9 #[.agg #[.slice ca NC cc, .slice fa NF fc], .slice oa2 L2 oc2, .agg #[.int .i64 x, .int .i64 y], .int .i64 n] W fun e w' => ∃ a c, e = .returned (.tuple #[.int .i64 r1, .slice a LR c, .int .i64 r3]) ∧ Gx W 2 enI rl (.slice a LR c) w') := hide (fun W b => by
        have := dcallee_any (x := x) (y := y) (unhide HO5 W b) (unhide HON2) (unhide HSI) (unhide HP5 W b) (unhide HN) (unhide HPR) n
        rw [unhide hr] at this
        refine this.mono ?_
        rintro e w' ⟨a, c, rfl, g⟩
        simp only at g ⊢
        rw [unhide hLR] at g ⊢
        exact ⟨a, c, rfl, g⟩)
      have HD10 : Hid (∀ W, Below (w5.alloc (.cells #[.slice (some ⟨cg, co, none⟩) NC ccap, .slice (some ⟨fg, fo, none⟩) NF fcap] 25)).heap.size (w5.alloc (.cells #[.slice (some ⟨cg, co, none⟩) NC ccap, .slice (some ⟨fg, fo, none⟩) NF fcap] 25)) W → Calls Try.prog 10 #[.agg #[.slice (some ⟨cg, co, none⟩) NC ccap, .slice (some ⟨fg, fo, none⟩) NF fcap], .pointer (some ⟨h, 0, none⟩), .agg #[.int .i64 x, .int .i64 y], .int .i64 n] W fun e w' => ∃ a c, e = .returned (.tuple #[.int .i64 r1, .slice a LR c, .int .i64 r3]) ∧ Gx W 2 enI rl (.slice a LR c) w') := hide (fun W b => by
        have := callee_any (x := x) (y := y) (unhide HH5 W b) (unhide HAG) (unhide HSd) (unhide HQP W b) (unhide HN) (unhide HPR) (cld_len (unhide HSI)) n
        rw [unhide hr] at this
        refine this.mono ?_
        rintro e w' ⟨a, c, rfl, g⟩
        simp only at g ⊢
        rw [unhide hLR] at g ⊢
        exact ⟨a, c, rfl, g⟩)
      have HKP : Hid (∀ W, Below (w5.alloc (.cells #[.slice (some ⟨cg, co, none⟩) NC ccap, .slice (some ⟨fg, fo, none⟩) NF fcap] 25)).heap.size (w5.alloc (.cells #[.slice (some ⟨cg, co, none⟩) NC ccap, .slice (some ⟨fg, fo, none⟩) NF fcap] 25)) W → Calls Try.prog 11 #[.agg #[.slice (some ⟨cg, co, none⟩) NC ccap, .slice (some ⟨fg, fo, none⟩) NF fcap], .agg #[.slice ca NC cc, .slice fa NF fc]] W fun e w' => e = .returned (.bool true) ∧ Below W.heap.size W w') := hide (fun W b => by
        have := keptP_any ((unhide HLT).keep (bl_past (unhide HB55) b)) (unhide HP5 W b) (unhide HN) (unhide HC) (unhide HBD)
        rw [unhide hNC, unhide hNF] at this
        exact this)
      have HSV : Hid (∀ (W : World) (u v : Value), Ro W 2 u LR (flt enI rl) → Ro W 2 v LR (flt enI rl) → Calls Try.prog 12 #[u, v] W fun e w' => e = .returned (.bool true) ∧ Below W.heap.size W w') := hide (fun W u v hu hv => by
        have := smV_any (l := rl) (m := rl) (by rw [unhide hLR]; exact Rx.of_ro hu) (by rw [unhide hLR]; exact Rx.of_ro hv) (by rw [unhide hLR]; omega)
        rw [Dc_true rfl] at this
        exact this)
      have HCF : Hid (∀ W, Below (w5.alloc (.cells #[.slice (some ⟨cg, co, none⟩) NC ccap, .slice (some ⟨fg, fo, none⟩) NF fcap] 25)).heap.size (w5.alloc (.cells #[.slice (some ⟨cg, co, none⟩) NC ccap, .slice (some ⟨fg, fo, none⟩) NF fcap] 25)) W → W.cell? ⟨w.heap.size, 0, none⟩ = some (.slice ca NC cc) ∧ W.cell? ⟨w.heap.size, 1, none⟩ = some (.slice fa NF fc) ∧ w.heap.size < W.heap.size ∧ W.cell? ⟨w.heap.size + 1, 0, none⟩ = some (.slice oa2 L2 oc2) ∧ W.cell? ⟨w.heap.size + 1, 1, none⟩ = some (.int .i64 x) ∧ W.cell? ⟨w.heap.size + 1, 2, none⟩ = some (.int .i64 y) ∧ W.cell? ⟨w.heap.size + 1, 3, none⟩ = some (.int .i64 n) ∧ w.heap.size + 1 < W.heap.size) := hide (fun W b => unhide HCE W (bl_past (unhide HB5) b))
      have HBW : Hid (∀ W, Below (w5.alloc (.cells #[.slice (some ⟨cg, co, none⟩) NC ccap, .slice (some ⟨fg, fo, none⟩) NF fcap] 25)).heap.size (w5.alloc (.cells #[.slice (some ⟨cg, co, none⟩) NC ccap, .slice (some ⟨fg, fo, none⟩) NF fcap] 25)) W → Below w.heap.size w W) := hide (fun W b => bl_past (bl_past (unhide HB4) (unhide HB5)) b)
      clear p0 p1 pl e0 e1 e2 e3 el HCE HPW HLT HB45
      obtain ⟨p0, p1, pl, e0, e1, e2, e3, el⟩ := unhide HCF (w5.alloc (.cells #[.slice (some ⟨cg, co, none⟩) NC ccap, .slice (some ⟨fg, fo, none⟩) NF fcap] 25)) (Below.refl _ _)
      go_wp2_with fail
      refine (unhide HD9 _ (Below.refl _ _)).mono ?_
      rintro e w6 ⟨a6, c6, rfl, g6⟩
      have HB6 : Hid (Below (w5.alloc (.cells #[.slice (some ⟨cg, co, none⟩) NC ccap, .slice (some ⟨fg, fo, none⟩) NF fcap] 25)).heap.size (w5.alloc (.cells #[.slice (some ⟨cg, co, none⟩) NC ccap, .slice (some ⟨fg, fo, none⟩) NF fcap] 25)) w6) := hide g6.2.1
      have HR6 := hide g6.1
      rw [unhide hLR] at HR6
      clear g6 p0 p1 pl e0 e1 e2 e3 el
      obtain ⟨p0, p1, pl, e0, e1, e2, e3, el⟩ := unhide HCF w6 (unhide HB6)
      obtain ⟨q0, q1, ql5⟩ := unhide HQC w6 (unhide HB6)
      go_wp2_with fail
      refine (unhide HD10 _ (unhide HB6)).mono ?_
      rintro e w7 ⟨a7, c7, rfl, g7⟩
      have HB67 := hide g7.2.1
      have HB7 : Hid (Below (w5.alloc (.cells #[.slice (some ⟨cg, co, none⟩) NC ccap, .slice (some ⟨fg, fo, none⟩) NF fcap] 25)).heap.size (w5.alloc (.cells #[.slice (some ⟨cg, co, none⟩) NC ccap, .slice (some ⟨fg, fo, none⟩) NF fcap] 25)) w7) := hide (bl_past (unhide HB6) g7.2.1)
      have HG7 := hide g7.2.2
      have HR7 := hide g7.1
      rw [unhide hLR] at HR7
      clear g7 p0 p1 pl e0 e1 e2 e3 el q0 q1 ql5
      obtain ⟨p0, p1, pl, e0, e1, e2, e3, el⟩ := unhide HCF w7 (unhide HB7)
      obtain ⟨q0, q1, ql5⟩ := unhide HQC w7 (unhide HB7)
      go_wp2_with fail
      refine (unhide HD10 _ (unhide HB7)).mono ?_
      rintro e w8 ⟨a8, c8, rfl, g8⟩
      have HB78 := hide g8.2.1
      have HB8 : Hid (Below (w5.alloc (.cells #[.slice (some ⟨cg, co, none⟩) NC ccap, .slice (some ⟨fg, fo, none⟩) NF fcap] 25)).heap.size (w5.alloc (.cells #[.slice (some ⟨cg, co, none⟩) NC ccap, .slice (some ⟨fg, fo, none⟩) NF fcap] 25)) w8) := hide (bl_past (unhide HB7) g8.2.1)
      have HG8 := hide g8.2.2
      have HR8 := hide g8.1
      rw [unhide hLR] at HR8
      clear g8 p0 p1 pl e0 e1 e2 e3 el q0 q1 ql5
      obtain ⟨p0, p1, pl, e0, e1, e2, e3, el⟩ := unhide HCF w8 (unhide HB8)
      obtain ⟨q0, q1, ql5⟩ := unhide HQC w8 (unhide HB8)
      have dr1 : (r1 != r1) = false := by simp
      have dr3 : (r3 != r3) = false := by simp
      go_wp2_with fail
      refine (unhide HKP _ (unhide HB8)).mono ?_
      rintro e w9 ⟨rfl, b9⟩
      have HB89 := hide b9
      have HB9 : Hid (Below (w5.alloc (.cells #[.slice (some ⟨cg, co, none⟩) NC ccap, .slice (some ⟨fg, fo, none⟩) NF fcap] 25)).heap.size (w5.alloc (.cells #[.slice (some ⟨cg, co, none⟩) NC ccap, .slice (some ⟨fg, fo, none⟩) NF fcap] 25)) w9) := hide (bl_past (unhide HB8) b9)
      have HU : Hid (∀ W, Below w9.heap.size w9 W → Ro W 2 (.slice a6 LR c6) LR (flt enI rl) ∧ Ro W 2 (.slice a7 LR c7) LR (flt enI rl) ∧ Ro W 2 (.slice a8 LR c8) LR (flt enI rl)) := hide (fun W b => by
        have b8 := bl_past (unhide HB89) b
        have b7 := bl_past (unhide HB78) b8
        have b6 := bl_past (unhide HB67) b7
        exact ⟨(unhide HR6).fr (Fr.of_below (S := fun _ => False) b6) (fun _ _ e => e), (unhide HR7).fr (Fr.of_below (S := fun _ => False) b7) (fun _ _ e => e), (unhide HR8).fr (Fr.of_below (S := fun _ => False) b8) (fun _ _ e => e)⟩)
      clear b9 p0 p1 pl e0 e1 e2 e3 el q0 q1 ql5
      go_wp2_with fail
      refine (unhide HSV w9 _ _ (unhide HU w9 (Below.refl _ _)).2.1 (unhide HU w9 (Below.refl _ _)).1).mono ?_
      rintro e w10 ⟨rfl, b10⟩
      have HB910 := hide b10
      clear b10
      go_wp2_with fail
      refine (unhide HSV w10 _ _ (unhide HU w10 (unhide HB910)).2.2 (unhide HU w10 (unhide HB910)).1).mono ?_
      rintro e w11 ⟨rfl, b11⟩
      have HB911 : Hid (Below w9.heap.size w9 w11) := hide (bl_past (unhide HB910) b11)
      clear b11
      have HAP : Hid (∀ ty, Calls Try.prog 13 #[.slice (some ⟨w11.heap.size, 0, none⟩) 2 2] (w11.alloc (.cells #[.slice a7 LR c7, .slice a8 LR c8] ty)) fun e w' => e = .returned (.bool true) ∧ Below (w5.alloc (.cells #[.slice (some ⟨cg, co, none⟩) NC ccap, .slice (some ⟨fg, fo, none⟩) NF fcap] 25)).heap.size (w5.alloc (.cells #[.slice (some ⟨cg, co, none⟩) NC ccap, .slice (some ⟨fg, fo, none⟩) NF fcap] 25)) w') := hide (fun ty => by
        have hx := bl_box w11 (.cells #[.slice a7 LR c7, .slice a8 LR c8] ty)
        have b9 := bl_past (unhide HB911) hx
        obtain ⟨_, h7, h8⟩ := unhide HU _ b9
        have l7 := (unhide HR7).lt
        have l8 := (unhide HR8).lt
        have ge7 := unhide HG7
        have ge8 := unhide HG8
        have s8 := (unhide HB78).size
        have s9 := (unhide HB89).size
        have s11 := (unhide HB911).size
        have s6 := (unhide HB6).size
        have s67 := (unhide HB67).size
        have n0 := new_cells w11 #[.slice a7 LR c7, .slice a8 LR c8] ty 0 _ rfl
        have n1 := new_cells w11 #[.slice a7 LR c7, .slice a8 LR c8] ty 1 _ rfl
        rw [Go.WideShapes.add_plain, Nat.zero_add] at n0 n1
        refine (apartV 2 _ w11.heap.size 0 2 _ _ (as2 (lb := w11.heap.size) h7 h8 (unhide hLR) hLRN n0 n1 (fun b hb => by have := l7 b hb; omega) (fun b hb => by have := l8 b hb; omega) (fun b hb hb' => by have := l7 b hb; have := ge8 b hb'; omega))).mono ?_
        rintro e w' ⟨rfl, f⟩
        have b5 := bl_past (unhide HB9) b9
        refine ⟨rfl, b5.trans (f.below b5.size (fun k hk q => ?_))⟩
        rcases sv2 q with q | q
        · have := ge7 k q; omega
        · have := ge8 k q; omega)
      go_wp2_with fail
      refine (unhide HAP _).mono ?_
      rintro e w12 ⟨rfl, b12⟩
      have HB12' := hide b12
      clear b12 HAP HU HR6 HR7 HR8 HG7 HG8 HB67 HB78 HB89 HB910 HB911 HSV HKP HD9 HD10
      have hd12 : ((L2 : Int) != (L2 : Int)) = false := by simp
      have HBN : Hid (∀ m, Below (w5.alloc (.cells #[.slice (some ⟨cg, co, none⟩) NC ccap, .slice (some ⟨fg, fo, none⟩) NF fcap] 25)).heap.size (w5.alloc (.cells #[.slice (some ⟨cg, co, none⟩) NC ccap, .slice (some ⟨fg, fo, none⟩) NF fcap] 25)) (w12.drewN m)) := hide (fun m => bl_past (unhide HB12') (bl_drewN w12 m))
      have HLE : Hid (∀ m, Calls Try.prog 14 #[.pointer (some ⟨h, 0, none⟩)] (w12.drewN m) fun e w' => e = .returned (.int .i64 (L2 : Int)) ∧ w' = w12.drewN m) := hide (fun m => by
        have := hp.len_any (unhide HH5 _ (unhide HBN m))
        rw [unhide HDL2] at this
        exact this)
      obtain ⟨p0, p1, pl, e0, e1, e2, e3, el⟩ := unhide HCF w12 (unhide HB12')
      go_wp2_with fail
      go_quiet (first | (go_at_call 14; exact Calls.quiet_of_same (unhide HLE _)))
      have hb13 := unhide HBN nq
      generalize w12.drewN nq = w13 at *
      have HB13 := hide hb13
      clear hb13 HBN HLE p0 p1 pl e0 e1 e2 e3 el
      go_wp2_with fail
      go_loopg [19, 20, 21] L2 (fun gg t19 t20 t21 wr => ∃ (i : Nat), Hid (i + gg = L2) ∧ t19 = .int .i64 (i : Int) ∧ Hid (Below (w5.alloc (.cells #[.slice (some ⟨cg, co, none⟩) NC ccap, .slice (some ⟨fg, fo, none⟩) NF fcap] 25)).heap.size (w5.alloc (.cells #[.slice (some ⟨cg, co, none⟩) NC ccap, .slice (some ⟨fg, fo, none⟩) NF fcap] 25)) wr))
      case atStart => exact ⟨0, by unfold Hid; omega, rfl, HB13⟩
      case round =>
        obtain ⟨i, hi, rfl, hG⟩ := hrel
        obtain ⟨-, -, -, e0, -, -, -, el⟩ := unhide HCF wr (unhide hG)
        by_cases hlt : i < L2
        · obtain ⟨d, hd⟩ : ∃ d, ds[i]? = some d := ⟨_, List.getElem?_eq_getElem (by rw [unhide HDL2]; exact hlt)⟩
          have hod : os2[i]? = some d.ob := by rw [← unhide HAG, List.getElem?_map, hd]; rfl
          obtain ⟨h1, h2⟩ := unhide HSd d (List.mem_of_getElem? hd)
          have HOB : Hid (Calls Try.prog 15 #[.pointer (some ⟨h, 0, none⟩), .int .i64 (i : Int)] wr fun e w' => ∃ v1 v2, e = .returned (.tuple #[.agg #[.int .i64 d.ob.kind, v1, v2, .int .i64 d.ob.fn, .int .i64 d.ob.cap, .bool d.ob.shut], .bool true]) ∧ hp.OutV wr w' d.ao v1 v2 ∧ Below wr.heap.size wr w') := hide (hp.object_all (unhide HH5 wr (unhide hG)) hd h1 h2)
          have HHB : Hid (d.ob.its.length ≤ 4096 ∧ d.ob.keys.length ≤ 4096) := hide ⟨h1, h2⟩
          have HOD := hide hod
          have i0 : (0 : Int) ≤ (i : Int) := by omega
          have i1 : (i : Int) < (L2 : Int) := by omega
          have hgk : 0 < gk := by have := unhide hi; omega
          have hL2N : L2 ≤ 1048576 := by
            have h9 := congrArg List.length (unhide HAG)
            rw [List.length_map, unhide HDL2] at h9
            have := unhide HON2
            omega
          have HI2 : Hid (i + 1 + (gk - 1) = L2) := by have := unhide hi; unfold Hid; omega
          clear hd hod h1 h2
          go_wp2_with fail
          refine (unhide HOB).mono ?_
          rintro e w14 ⟨v1, v2, rfl, hov, b14⟩
          have hv := outV_ob hov
          obtain ⟨va, vc, ya, yc, ex, _, _, _, _⟩ := hv.v.parts
          injection ex with _ ev1 ev2 _ _ _
          subst ev1
          subst ev2
          generalize d.ob = f at *
          have HB14 : Hid (Below (w5.alloc (.cells #[.slice (some ⟨cg, co, none⟩) NC ccap, .slice (some ⟨fg, fo, none⟩) NF fcap] 25)).heap.size (w5.alloc (.cells #[.slice (some ⟨cg, co, none⟩) NC ccap, .slice (some ⟨fg, fo, none⟩) NF fcap] 25)) w14) := hide (bl_past (unhide hG) b14)
          obtain ⟨gb, go, ia, ic, ka, kc, ea, hgb, k0, k1, k2, k3, k4, k5, hx, hy2, -⟩ := (unhide HO5 w14 (unhide HB14)).six (unhide HOD)
          subst ea
          have HXB := hide (bl_box w14 (.cells #[.int .i64 f.kind, .slice va f.its.length vc, .slice ya f.keys.length yc, .int .i64 f.fn, .int .i64 f.cap, .bool f.shut] 51))
          have hSW : ∀ W, Below (w14.alloc (.cells #[.int .i64 f.kind, .slice va f.its.length vc, .slice ya f.keys.length yc, .int .i64 f.fn, .int .i64 f.cap, .bool f.shut] 51)).heap.size (w14.alloc (.cells #[.int .i64 f.kind, .slice va f.its.length vc, .slice ya f.keys.length yc, .int .i64 f.fn, .int .i64 f.cap, .bool f.shut] 51)) W → (fun wx => wx.cell? ⟨w14.heap.size, 0, none⟩ = some (.int .i64 f.kind) ∧ wx.cell? ⟨w14.heap.size, 1, none⟩ = some (.slice va f.its.length vc) ∧ wx.cell? ⟨w14.heap.size, 2, none⟩ = some (.slice ya f.keys.length yc) ∧ wx.cell? ⟨w14.heap.size, 3, none⟩ = some (.int .i64 f.fn) ∧ wx.cell? ⟨w14.heap.size, 4, none⟩ = some (.int .i64 f.cap) ∧ wx.cell? ⟨w14.heap.size, 5, none⟩ = some (.bool f.shut) ∧ w14.heap.size < wx.heap.size ∧ wx.cell? ⟨w.heap.size + 1, 0, none⟩ = some (.slice (some ⟨gb, go, none⟩) L2 oc2) ∧ w.heap.size + 1 < wx.heap.size ∧ wx.cell? ⟨gb, go + i * 6, none⟩ = some (.int .i64 f.kind) ∧ wx.cell? ⟨gb, go + i * 6 + 1, none⟩ = some (.slice ia f.its.length ic) ∧ wx.cell? ⟨gb, go + i * 6 + 2, none⟩ = some (.slice ka f.keys.length kc) ∧ wx.cell? ⟨gb, go + i * 6 + 3, none⟩ = some (.int .i64 f.fn) ∧ wx.cell? ⟨gb, go + i * 6 + 4, none⟩ = some (.int .i64 f.cap) ∧ wx.cell? ⟨gb, go + i * 6 + 5, none⟩ = some (.bool f.shut) ∧ gb < wx.heap.size) W := fun W b => by
            have q := heap_alloc_new w14 (.cells #[.int .i64 f.kind, .slice va f.its.length vc, .slice ya f.keys.length yc, .int .i64 f.fn, .int .i64 f.cap, .bool f.shut] 51)
            obtain ⟨z1, _, zl⟩ := blk_cells ((b.block _ (Array.getElem?_eq_some_iff.1 q).1).trans q)
            have bb := bl_past (unhide HXB) b
            obtain ⟨-, -, -, e0', -, -, -, el'⟩ := unhide HCF W (bl_past (unhide HB14) bb)
            exact ⟨(z1 0).trans rfl, (z1 1).trans rfl, (z1 2).trans rfl, (z1 3).trans rfl, (z1 4).trans rfl, (z1 5).trans rfl, zl, e0', el', (bb.cell (p := ⟨gb, go + i * 6, none⟩) hgb).trans k0, (bb.cell (p := ⟨gb, go + i * 6 + 1, none⟩) hgb).trans k1, (bb.cell (p := ⟨gb, go + i * 6 + 2, none⟩) hgb).trans k2, (bb.cell (p := ⟨gb, go + i * 6 + 3, none⟩) hgb).trans k3, (bb.cell (p := ⟨gb, go + i * 6 + 4, none⟩) hgb).trans k4, (bb.cell (p := ⟨gb, go + i * 6 + 5, none⟩) hgb).trans k5, Nat.lt_of_lt_of_le hgb bb.size⟩
          have HSO : Hid (∀ W, Below (w14.alloc (.cells #[.int .i64 f.kind, .slice va f.its.length vc, .slice ya f.keys.length yc, .int .i64 f.fn, .int .i64 f.cap, .bool f.shut] 51)).heap.size (w14.alloc (.cells #[.int .i64 f.kind, .slice va f.its.length vc, .slice ya f.keys.length yc, .int .i64 f.fn, .int .i64 f.cap, .bool f.shut] 51)) W → Calls Try.prog 16 #[.agg #[.int .i64 f.kind, .slice va f.its.length vc, .slice ya f.keys.length yc, .int .i64 f.fn, .int .i64 f.cap, .bool f.shut], .agg #[.int .i64 f.kind, .slice ia f.its.length ic, .slice ka f.keys.length kc, .int .i64 f.fn, .int .i64 f.cap, .bool f.shut]] W fun e w' => e = .returned (.bool true) ∧ Below W.heap.size W w') := hide (fun W b => by
            have bb := bl_past (unhide HXB) b
            have hu : ObA W (.agg #[.int .i64 f.kind, .slice va f.its.length vc, .slice ya f.keys.length yc, .int .i64 f.fn, .int .i64 f.cap, .bool f.shut]) f := ⟨_, _, rfl, (Rx.of_ro hv.2.2.2.2.1).below bb (Nat.le_refl _), (Rx.of_ro hv.2.2.2.2.2).below bb (Nat.le_refl _)⟩
            have hw2 : ObA W (.agg #[.int .i64 f.kind, .slice ia f.its.length ic, .slice ka f.keys.length kc, .int .i64 f.fn, .int .i64 f.cap, .bool f.shut]) f := ⟨_, _, rfl, hx.below bb (Nat.le_refl _), hy2.below bb (Nat.le_refl _)⟩
            have := smO_any hu hw2 (by have := (unhide HHB).1; omega) (by have := (unhide HHB).2; omega)
            rw [Dc_true rfl] at this
            exact this)
          have HFI : Hid (∀ W, Below (w14.alloc (.cells #[.int .i64 f.kind, .slice va f.its.length vc, .slice ya f.keys.length yc, .int .i64 f.fn, .int .i64 f.cap, .bool f.shut] 51)).heap.size (w14.alloc (.cells #[.int .i64 f.kind, .slice va f.its.length vc, .slice ya f.keys.length yc, .int .i64 f.fn, .int .i64 f.cap, .bool f.shut] 51)) W → Below (w5.alloc (.cells #[.slice (some ⟨cg, co, none⟩) NC ccap, .slice (some ⟨fg, fo, none⟩) NF fcap] 25)).heap.size (w5.alloc (.cells #[.slice (some ⟨cg, co, none⟩) NC ccap, .slice (some ⟨fg, fo, none⟩) NF fcap] 25)) W) := hide (fun W b => bl_past (bl_past (unhide HB14) (unhide HXB)) b)
          have HSW := hide hSW
          clear hSW hv hov b14 k0 k1 k2 k3 k4 k5 hx hy2 e0 el HOB HOD
          go_wp2_with fail
          have hS := unhide HSW _ (Below.refl _ _)
          refine wp_region_held_drew (S := (fun wx => wx.cell? ⟨w14.heap.size, 0, none⟩ = some (.int .i64 f.kind) ∧ wx.cell? ⟨w14.heap.size, 1, none⟩ = some (.slice va f.its.length vc) ∧ wx.cell? ⟨w14.heap.size, 2, none⟩ = some (.slice ya f.keys.length yc) ∧ wx.cell? ⟨w14.heap.size, 3, none⟩ = some (.int .i64 f.fn) ∧ wx.cell? ⟨w14.heap.size, 4, none⟩ = some (.int .i64 f.cap) ∧ wx.cell? ⟨w14.heap.size, 5, none⟩ = some (.bool f.shut) ∧ w14.heap.size < wx.heap.size ∧ wx.cell? ⟨w.heap.size + 1, 0, none⟩ = some (.slice (some ⟨gb, go, none⟩) L2 oc2) ∧ w.heap.size + 1 < wx.heap.size ∧ wx.cell? ⟨gb, go + i * 6, none⟩ = some (.int .i64 f.kind) ∧ wx.cell? ⟨gb, go + i * 6 + 1, none⟩ = some (.slice ia f.its.length ic) ∧ wx.cell? ⟨gb, go + i * 6 + 2, none⟩ = some (.slice ka f.keys.length kc) ∧ wx.cell? ⟨gb, go + i * 6 + 3, none⟩ = some (.int .i64 f.fn) ∧ wx.cell? ⟨gb, go + i * 6 + 4, none⟩ = some (.int .i64 f.cap) ∧ wx.cell? ⟨gb, go + i * 6 + 5, none⟩ = some (.bool f.shut) ∧ gb < wx.heap.size)) (by kernel_rfl) hS (fun hHeld => ?_)
          refine wpAnyH_take (i := 0) (oi := _) (v := .agg #[.int .i64 f.kind, .slice va f.its.length vc, .slice ya f.keys.length yc, .int .i64 f.fn, .int .i64 f.cap, .bool f.shut]) rfl (by kernel_rfl) (by kernel_rfl) (by kernel_rfl) (fun _ _ _ h => h) (Or.inl ⟨by rfl, (by intro w9 hSw; obtain ⟨s0, s1, s2, s3, s4, s5, s6, s7, s8, s9, s10, s11, s12, s13, s14, s15⟩ := hSw; go_simp)⟩) (by assumption) ?_
          refine wpAnyH_take (i := 1) (oi := _) (v := .pointer (some ⟨w.heap.size + 1, 0, none⟩)) rfl (by kernel_rfl) (by kernel_rfl) (by kernel_rfl) (fun _ _ _ h => h) (Or.inl ⟨by rfl, (by intro w9 hSw; obtain ⟨s0, s1, s2, s3, s4, s5, s6, s7, s8, s9, s10, s11, s12, s13, s14, s15⟩ := hSw; go_simp)⟩) (by assumption) ?_
          refine wpAnyH_take (i := 2) (oi := _) (v := .slice (some ⟨gb, go, none⟩) L2 oc2) rfl (by kernel_rfl) (by kernel_rfl) (by kernel_rfl) (fun _ _ _ h => h) (Or.inl ⟨by rfl, (by intro w9 hSw; obtain ⟨s0, s1, s2, s3, s4, s5, s6, s7, s8, s9, s10, s11, s12, s13, s14, s15⟩ := hSw; go_simp)⟩) (by assumption) ?_
          go_simp
          refine wpAnyH_take (i := 3) (oi := _) (v := .int .i64 (i : Int)) rfl (by kernel_rfl) (by kernel_rfl) (by kernel_rfl) (fun _ _ _ h => h) (Or.inl ⟨by rfl, (by intro w9 hSw; obtain ⟨s0, s1, s2, s3, s4, s5, s6, s7, s8, s9, s10, s11, s12, s13, s14, s15⟩ := hSw; go_simp)⟩) (by assumption) ?_
          refine wpAnyH_take (i := 4) (oi := _) (v := .pointer (some ⟨gb, go + i * 6, none⟩)) rfl (by kernel_rfl) (by kernel_rfl) (by kernel_rfl) (fun _ _ _ h => h) (Or.inl ⟨by rfl, (by intro w9 hSw; obtain ⟨s0, s1, s2, s3, s4, s5, s6, s7, s8, s9, s10, s11, s12, s13, s14, s15⟩ := hSw; go_simp)⟩) (by assumption) ?_
          go_simp
          refine wpAnyH_take (i := 5) (oi := _) (v := .agg #[.int .i64 f.kind, .slice ia f.its.length ic, .slice ka f.keys.length kc, .int .i64 f.fn, .int .i64 f.cap, .bool f.shut]) rfl (by kernel_rfl) (by kernel_rfl) (by kernel_rfl) (fun _ _ _ h => h) (Or.inl ⟨by rfl, (by intro w9 hSw; obtain ⟨s0, s1, s2, s3, s4, s5, s6, s7, s8, s9, s10, s11, s12, s13, s14, s15⟩ := hSw; go_simp)⟩) (by assumption) ?_
          go_simp
          refine wpAnyH_ready (rs := [6]) (by kernel_rfl) (by simp) ?_
          refine AllReadyH.cons (o := _) rfl (fun KK hKK => ?_) AllReadyH.nil
          go_simp
          refine (unhide HSO _ (bl_drew _)).mono ?_
          rintro e w15 ⟨rfl, b15⟩
          have b16 := bl_past (bl_drew (w14.alloc (.cells #[.int .i64 f.kind, .slice va f.its.length vc, .slice ya f.keys.length yc, .int .i64 f.fn, .int .i64 f.cap, .bool f.shut] 51))) b15
          have HG2 := hide (unhide HFI w15 b16)
          have S5 := unhide HSW w15 b16
          clear b15 b16
          go_simp
          refine hKK.out _ _ S5 (fun _ => ?_)
          clear hKK KK
          go_simp
          refine wpAnyH_take (i := 7) (oi := _) (v := .bool false) rfl (by kernel_rfl) (by kernel_rfl) (by kernel_rfl) (fun _ _ _ h => h) (Or.inl ⟨by rfl, (by intro w9 hSw; obtain ⟨s0, s1, s2, s3, s4, s5, s6, s7, s8, s9, s10, s11, s12, s13, s14, s15⟩ := hSw; go_simp)⟩) (S5) ?_
          go_simp
          refine wpAnyH_done (by kernel_rfl) ?_ _
          go_wp2_with fail
          go_roundg (gk - 1)
          case measure => have := hgk; omega
          case rel => exact ⟨i + 1, HI2, by go_num, HG2⟩
        · have hiL : ¬ (i : Int) < (L2 : Int) := by omega
          have HE := hide (unhide HBW wr (unhide hG))
          go_wp2_with fail
          go_ret
          exact ⟨rfl, unhide HE⟩
end Go.Proofs.Ytfoanikkngmeiaa
