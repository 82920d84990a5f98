/-
  Load, the program's.
-/
import Derived.Test.YtfoanikkngmeiaaLTk
namespace Go.Proofs.Ytfoanikkngmeiaa
open Go.RowKit
set_option linter.unusedVariables false
set_option linter.unusedSimpArgs false
theorem infF : (Try.prog.info? 62).map (fun i => (i.zero, i.size, i.bytes)) = some (some .nilIface, 1, 16) := by kernel_rfl
/-- While a heap is loaded. -/
structure LdS (w : World) (h : Nat) (bud sp : Int) (V : Ob → Bool) (os : List Ob) (i : Nat) (wr : World) (ov : Value) (ds : List hp.OD) : Prop where
  H : hp.Hp wr h bud sp ov ds
  m : ds.map (·.ob) = os.take i
  f : ∀ k, hp.Fts h ov ds k → w.heap.size ≤ k
  b : Below w.heap.size w wr
  a : (os.take i).all V = true
/-- What Load answers. -/
def LdP (w : World) (bud sp : Int) (os : List Ob) (e : Ending) (w' : World) : Prop :=
  Below w.heap.size w w' ∧ ((lRb os = false ∧ e = .returned (.tuple #[.pointer none, .bool false])) ∨
    (lRb os = true ∧ ∃ h ov ds, e = .returned (.tuple #[.pointer (some ⟨h, 0, none⟩), .bool true]) ∧ hp.Hp w' h (max bud 0) (max sp 0) ov ds ∧ ds.map (·.ob) = os ∧ ∀ k, hp.Fts h ov ds k → w.heap.size ≤ k))
theorem LdP.no {w w' : World} {bud sp : Int} {os : List Ob} (hB : Below w.heap.size w w') {i : Nat} {o : Ob} (ho : os[i]? = some o) (h : oRb (kinds os) o = false) : LdP w bud sp os (.returned (.tuple #[.pointer none, .bool false])) w' :=
  ⟨hB, .inl ⟨all_no ho h, rfl⟩⟩
set_option maxRecDepth 100000 in
set_option maxHeartbeats 3200000 in
theorem load_any {w : World} {lv : Value} {os : List Ob} (h : OsV w lv os) (hN : os.length ≤ 1048576) (hS : ∀ o ∈ os, o.its.length ≤ 1048576 ∧ o.keys.length ≤ 1048576) (bud sp : Int) :
    Calls Try.prog 4 #[.int .i64 bud, .int .i64 sp, lv] w (LdP w bud sp os) := by
  have HNO := hide (fun (i : Nat) (o : Ob) (w' : World) (hB : Below w.heap.size w w') (ho : os[i]? = some o) (h : oRb (kinds os) o = false) => LdP.no (bud := bud) (sp := sp) hB ho h)
  have HV : Hid (∀ W iv (l : List (Int × Int)), Below w.heap.size w W → Rx W 2 iv l.length (flt enI l) → l.length ≤ 1048576 → Calls Try.prog 18 #[iv, lv] W fun e w' => e = .returned (.bool (l.all (vRb (kinds os)))) ∧ Below W.heap.size W w') := fun W iv l b hl h1 => values_any hl (h.below b (Nat.le_refl _)) h1 hN
  have HO := hide h
  obtain ⟨a, cap, rfl, hlc, hcm⟩ := h.shape
  have HS := hide hS
  obtain ⟨L, hL⟩ : ∃ L, Hid (os.length = L) := ⟨_, hide rfl⟩
  rw [unhide hL] at hN hlc HO HV ⊢
  unfold maxLen at hcm
  have HNW := hide (hp.new_any w bud sp)
  clear h hS
  go_enter Try.func4, Try.ntmps4
  go_wp2_with fail
  refine (unhide HNW).mono ?_
  rintro e w0 ⟨rfl, H0, B0⟩
  have HI : Hid (LdS w w.heap.size (max bud 0) (max sp 0) (oRb (kinds os)) os 0 w0 (.slice none 0 0) []) := ⟨H0, by simp, fun k hk => by
    rcases hk.cases with e | e | ⟨i, o, ho, _⟩
    · omega
    · simp [Value.ownBlock] at e
    · simp at ho, B0, by simp⟩
  clear H0 B0 HNW
  go_wp2_with fail
  go_loopg [10, 16] L (fun gg t10 t16 wr => ∃ (i : Nat) (ov : Value) (ds : List hp.OD), Hid (i + gg = L) ∧ t16 = .int .i64 (i : Int) ∧ Hid (LdS w w.heap.size (max bud 0) (max sp 0) (oRb (kinds os)) os i wr ov ds))
  case atStart => exact ⟨0, _, _, by unfold Hid; omega, rfl, HI⟩
  case round =>
    obtain ⟨i, ov, ds, hi, rfl, hG⟩ := hrel
    by_cases hlt : i < L
    · obtain ⟨f, hf⟩ : ∃ f, os[i]? = some f := ⟨_, List.getElem?_eq_getElem (by rw [unhide hL]; exact hlt)⟩
      obtain ⟨b, off, ia, ic, ka, kc, ea, hb, k0, k1, k2, k3, k4, k5, hx, hy, hsl, hsm, htl, htm⟩ := ((unhide HO).below (unhide hG).b (Nat.le_refl _)).six hf
      cases ea
      have hfs := unhide HS f (List.mem_of_getElem? hf)
      have i0 : (0 : Int) ≤ (i : Int) := by omega
      have i1 : (i : Int) < (L : Int) := by omega
      have HFI : Hid (∀ O, Calls Try.prog 17 #[.agg #[.int .i64 f.kind, .slice ia f.its.length ic, .slice ka f.keys.length kc, .int .i64 f.fn, .int .i64 f.cap, .bool f.shut]] (wr.alloc O) fun e w' => e = .returned (.bool (fRb f)) ∧ Below (wr.alloc O).heap.size (wr.alloc O) w') := fun O => fields_any ⟨_, _, rfl, hx.below (bl_box wr O) (Nat.le_refl _), hy.below (bl_box wr O) (Nat.le_refl _)⟩ hfs.1 hfs.2
      have HTK : Hid (∀ W, Below wr.heap.size wr W → fRb f = true → Calls Try.prog 19 #[.agg #[.int .i64 f.kind, .slice ia f.its.length ic, .slice ka f.keys.length kc, .int .i64 f.fn, .int .i64 f.cap, .bool f.shut]] W (TkP W f)) := fun W bb hr => taken_any ⟨_, _, rfl, hx.below bb (Nat.le_refl _), hy.below bb (Nat.le_refl _)⟩ hr
      have HX := hide hx
      have HF := hide hf
      have HFS := hide hfs.1
      clear hx hy hf hfs
      unfold maxLen at hsm htm
      go_wp2_with fail
      refine (unhide HFI _).mono ?_
      rintro e w1 ⟨rfl, b1⟩
      have HB1 := hide (bl_past (bl_box wr _) b1)
      obtain ⟨q, qf, ql⟩ := blk_cells ((b1.block wr.heap.size (by simp)).trans (heap_alloc_new wr _))
      have q0 := q 0
      have q1 := q 1
      have q2 := q 2
      have q3 := q 3
      have q4 := q 4
      have q5 := q 5
      simp only [List.getElem?_toArray, List.getElem?_cons_zero, List.getElem?_cons_succ] at q0 q1 q2 q3 q4 q5
      clear q b1 k0 k1 k2 k3 k4 k5 HFI qf
      cases hfr : fRb f with
      | false =>
        have HE := hide (unhide HNO i f w1 (bl_past (unhide hG).b (unhide HB1)) (unhide HF) (by unfold oRb; rw [hfr]; rfl))
        clear hfr hG HB1 HF HX HTK HO HV
        go_wp2_with fail
        go_ret2
        exact unhide HE
      | true =>
        have HFR := hide hfr
        have HVV := hide (unhide HV w1 _ f.its (bl_past (unhide hG).b (unhide HB1)) ((unhide HX).below (unhide HB1) (Nat.le_refl _)) (unhide HFS))
        clear hfr
        go_wp2_with fail
        refine (unhide HVV).mono ?_
        rintro e w2 ⟨rfl, b2⟩
        have HB2 := hide (bl_past (unhide HB1) b2)
        have c0 := (b2.cell (p := ⟨wr.heap.size, 0, none⟩) ql).trans q0
        have c1 := (b2.cell (p := ⟨wr.heap.size, 1, none⟩) ql).trans q1
        have c2 := (b2.cell (p := ⟨wr.heap.size, 2, none⟩) ql).trans q2
        have c3 := (b2.cell (p := ⟨wr.heap.size, 3, none⟩) ql).trans q3
        have c4 := (b2.cell (p := ⟨wr.heap.size, 4, none⟩) ql).trans q4
        have c5 := (b2.cell (p := ⟨wr.heap.size, 5, none⟩) ql).trans q5
        have cl := Nat.lt_of_lt_of_le ql b2.size
        clear b2 q0 q1 q2 q3 q4 q5 ql HVV
        cases hva : f.its.all (vRb (kinds os)) with
        | false =>
          have HE := hide (unhide HNO i f w2 (bl_past (unhide hG).b (unhide HB2)) (unhide HF) (by unfold oRb; rw [hva]; simp))
          clear hva hG HB1 HB2 HF HX HTK HO HV HFR c0 c1 c2 c3 c4 c5
          go_wp2_with fail
          go_ret2
          exact unhide HE
        | true =>
          have HVA := hide hva
          clear hva
          go_wp2_with fail
          obtain ⟨X, hX⟩ : ∃ X, Hid (wr.heap.size = X) := ⟨_, hide rfl⟩
          obtain ⟨Y, hY⟩ : ∃ Y, Hid (w.heap.size = Y) := ⟨_, hide rfl⟩
          obtain ⟨oa, oc, eo, hol, hom⟩ := (unhide hG).H.row.shape
          subst eo
          unfold maxLen at hom
          have hdn : ds.length ≤ 1048576 := by have := congrArg List.length (unhide hG).m; simp at this; omega
          have HGW : Hid (∀ W, Below w2.heap.size w2 W → hp.Hp W w.heap.size (max bud 0) (max sp 0) (.slice oa ds.length oc) ds) := fun W bb => (unhide hG).H.below (bl_past (unhide HB2) bb)
          have HSW : Hid (∀ W, Below w2.heap.size w2 W → (fun wx => wx.cell? ⟨X, 0, none⟩ = some (.int .i64 f.kind) ∧ wx.cell? ⟨X, 1, none⟩ = some (.slice ia f.its.length ic) ∧ wx.cell? ⟨X, 2, none⟩ = some (.slice ka f.keys.length kc) ∧ wx.cell? ⟨X, 3, none⟩ = some (.int .i64 f.fn) ∧ wx.cell? ⟨X, 4, none⟩ = some (.int .i64 f.cap) ∧ wx.cell? ⟨X, 5, none⟩ = some (.bool f.shut) ∧ X < wx.heap.size) W) := fun W bb => by
            rw [← unhide hX]
            exact ⟨(bb.cell (p := ⟨wr.heap.size, 0, none⟩) cl).trans c0, (bb.cell (p := ⟨wr.heap.size, 1, none⟩) cl).trans c1, (bb.cell (p := ⟨wr.heap.size, 2, none⟩) cl).trans c2, (bb.cell (p := ⟨wr.heap.size, 3, none⟩) cl).trans c3, (bb.cell (p := ⟨wr.heap.size, 4, none⟩) cl).trans c4, (bb.cell (p := ⟨wr.heap.size, 5, none⟩) cl).trans c5, Nat.lt_of_lt_of_le cl bb.size⟩
          have HRW : Hid (∀ W, Below w2.heap.size w2 W → W.cell? ⟨Y, 2, none⟩ = some (.slice oa ds.length oc) ∧ Y < W.heap.size) := fun W bb => by
            rw [← unhide hY]
            exact ⟨(unhide HGW W bb).c2, (unhide HGW W bb).hlt⟩
          have HEND : Hid (∀ (W3 : World) (d : hp.OD), Below w2.heap.size w2 W3 → d.ok W3 → d.ob = f → (∀ k, d.mine k → w2.heap.size ≤ k) → (d.iv.ownBlock ≠ some d.b ∧ d.kv.ownBlock ≠ some d.b ∧ ∀ k, d.iv.ownBlock = some k → d.kv.ownBlock ≠ some k) →
              ∃ va vc w5, (∀ ty, (Builtin.append_ #[58, 58] ty #[.slice oa ds.length oc, .slice (some ⟨W3.heap.size, 0, none⟩) 1 1]).run Try.prog (W3.alloc (.cells #[d.face] 62)) = .ok (.slice va (ds.length + 1) vc) w5) ∧ (fun wx => wx.cell? ⟨X, 0, none⟩ = some (.int .i64 f.kind) ∧ wx.cell? ⟨X, 1, none⟩ = some (.slice ia f.its.length ic) ∧ wx.cell? ⟨X, 2, none⟩ = some (.slice ka f.keys.length kc) ∧ wx.cell? ⟨X, 3, none⟩ = some (.int .i64 f.fn) ∧ wx.cell? ⟨X, 4, none⟩ = some (.int .i64 f.cap) ∧ wx.cell? ⟨X, 5, none⟩ = some (.bool f.shut) ∧ X < wx.heap.size) w5 ∧ (fun wx => wx.cell? ⟨X, 0, none⟩ = some (.int .i64 f.kind) ∧ wx.cell? ⟨X, 1, none⟩ = some (.slice ia f.its.length ic) ∧ wx.cell? ⟨X, 2, none⟩ = some (.slice ka f.keys.length kc) ∧ wx.cell? ⟨X, 3, none⟩ = some (.int .i64 f.fn) ∧ wx.cell? ⟨X, 4, none⟩ = some (.int .i64 f.cap) ∧ wx.cell? ⟨X, 5, none⟩ = some (.bool f.shut) ∧ X < wx.heap.size) (w5.setCell ⟨Y, 2, none⟩ (.slice va (ds.length + 1) vc)) ∧ Y < w5.heap.size ∧ w5.cell? ⟨Y, 2, none⟩ = some (.slice oa ds.length oc) ∧ w5.frozen? ⟨Y, 2, none⟩ = false ∧
                LdS w w.heap.size (max bud 0) (max sp 0) (oRb (kinds os)) os (i + 1) (w5.setCell ⟨Y, 2, none⟩ (.slice va (ds.length + 1) vc)) (.slice va (ds.length + 1) vc) (ds ++ [d])) := fun W3 d bb hok hob hmn ho1 => by
            have H3 := unhide HGW W3 bb
            have hr4 : Ro (W3.alloc (.cells #[d.face] 62)) 1 (.slice oa ds.length oc) ds.length (ds.map hp.OD.face) := H3.row.fr ((Fr.refl (fun _ => False) W3).alloc _) (fun _ _ e => e)
            obtain ⟨i0, hi0, hz0, hz1, hz2⟩ := info_parts infF
            have hnc := new_cells W3 #[d.face] 62
            have hrun : ∀ ty, ∃ v' w', (Builtin.append_ #[58, 58] ty #[.slice oa ds.length oc, .slice (some ⟨W3.heap.size, 0, none⟩) 1 1]).run Try.prog (W3.alloc (.cells #[d.face] 62)) = .ok v' w' ∧ Ro w' 1 v' (ds.length + 1) (ds.map hp.OD.face ++ [d.face]) ∧ (W3.alloc (.cells #[d.face] 62)).grownBy w' (Value.slice oa ds.length oc).ownBlock ∧ (v'.ownBlock = (Value.slice oa ds.length oc).ownBlock ∨ v'.ownBlock = some (W3.alloc (.cells #[d.face] 62)).heap.size) := fun ty => Ro.app (P := Try.prog) 58 ty 62 i0 _ 1 16 Try.underlying58 hi0 hz0 hz1 hz2 rfl (by decide) hr4 ⟨W3.heap.size, 0, none⟩ 1 1 [d.face] rfl (fun j z hz => hnc j z hz) (by intro u hu; simp only [List.mem_cons, List.not_mem_nil, or_false] at hu; subst hu; rfl) (by omega) (by unfold maxLen; omega) (by omega)
            obtain ⟨v', w5, h1, h2, h3, h4⟩ := hrun 56
            obtain ⟨va, vc, rfl, _, _⟩ := h2.shape
            have hsz : Below w2.heap.size w2 (W3.alloc (.cells #[d.face] 62)) := bb.alloc bb.size _
            have hXlt : X < w2.heap.size := by rw [← unhide hX]; exact cl
            have hYX : Y ≤ X := by rw [← unhide hX, ← unhide hY]; exact (unhide hG).b.size
            have hFX : ∀ k, hp.Fts w.heap.size (.slice oa ds.length oc) ds k → k < X := fun k hk => by rw [← unhide hX]; exact (unhide hG).H.lt k hk
            obtain ⟨k2, kf, A1, A2, A3⟩ := H3.more hok (fun k hk e => by have := hmn k hk; have := hFX k e; omega) ho1 ((Below.refl _ W3).alloc (Nat.le_refl _) (.cells #[d.face] 62)) h3 h2 h4
            have f5 : Fr (fun k => (Value.slice oa ds.length oc).ownBlock = some k) w2 w5 := (Fr.of_below hsz).grown h3 (fun k e => .inr e)
            have hrX : (Value.slice oa ds.length oc).ownBlock ≠ some X := fun e => by have := hFX X ⟨.row, e⟩; omega
            have hS2 := unhide HSW w2 (Below.refl _ _)
            have hYn : Y ≠ X := fun e => by have := hFX w.heap.size ⟨.hp, rfl⟩; have := unhide hY; omega
            have c5 : ∀ j u, w2.cell? ⟨X, j, none⟩ = some u → w5.cell? ⟨X, j, none⟩ = some u := fun j u hu => (f5.cell (a := ⟨X, j, none⟩) hXlt hrX).trans hu
            have c6 : ∀ j u, w2.cell? ⟨X, j, none⟩ = some u → ∀ z, (w5.setCell ⟨Y, 2, none⟩ z).cell? ⟨X, j, none⟩ = some u := fun j u hu z => by
              rw [World.cell?_setCell_other _ _ _ _ (fun e => hYn (congrArg Addr.block e))]
              exact c5 j u hu
            have hs5 := f5.size
            obtain ⟨s0, s1, s2, s3, s4, s5, s6⟩ := hS2
            have hrun' : ∀ ty, (Builtin.append_ #[58, 58] ty #[.slice oa ds.length oc, .slice (some ⟨W3.heap.size, 0, none⟩) 1 1]).run Try.prog (W3.alloc (.cells #[d.face] 62)) = .ok (.slice va (ds.length + 1) vc) w5 := fun ty => h1
            rw [unhide hY] at k2 kf A1 A2
            refine ⟨va, vc, w5, hrun', ⟨c5 0 _ s0, c5 1 _ s1, c5 2 _ s2, c5 3 _ s3, c5 4 _ s4, c5 5 _ s5, by omega⟩, ⟨c6 0 _ s0 _, c6 1 _ s1 _, c6 2 _ s2 _, c6 3 _ s3 _, c6 4 _ s4 _, c6 5 _ s5 _, by simp [World.setCell]; omega⟩, by omega, k2, kf, ⟨?_, ?_, fun k hk => ?_, ?_, ?_⟩⟩
            · rw [unhide hY]; exact A1
            · rw [List.map_append, (unhide hG).m, take_push (unhide HF)]; simp [hob]
            · rcases A3 k hk with q | q | q
              · exact (unhide hG).f k q
              · have := hmn k q; have := (unhide hG).b.size; have := (unhide HB2).size; omega
              · have := bb.size; have := (unhide hG).b.size; have := (unhide HB2).size; omega
            · have hb2 := bl_past (unhide hG).b (unhide HB2)
              refine (hb2.trans (f5.below hb2.size (fun k hk e => ?_))).trans (((Fr.refl (fun k => k = Y) w5).setCell ⟨Y, 2, none⟩ (.inr rfl) _).below (by have := hb2.size; omega) (fun k hk e => ?_))
              · have := (unhide hG).f k ⟨.row, e⟩; omega
              · rw [e, ← unhide hY] at hk; omega
            · exact all_take (unhide hG).a (unhide HF) (by unfold oRb; rw [unhide HFR, unhide HVA]; rfl)
          have hS := unhide HSW w2 (Below.refl _ _)
          obtain ⟨r2, rl⟩ := unhide HRW w2 (Below.refl _ _)
          rw [unhide hX] at cl
          rw [unhide hX]
          try rw [unhide hY]
          clear c0 c1 c2 c3 c4 c5 HNO HO HV HX HVA
          refine wp_region_held_drew (S := (fun wx => wx.cell? ⟨X, 0, none⟩ = some (.int .i64 f.kind) ∧ wx.cell? ⟨X, 1, none⟩ = some (.slice ia f.its.length ic) ∧ wx.cell? ⟨X, 2, none⟩ = some (.slice ka f.keys.length kc) ∧ wx.cell? ⟨X, 3, none⟩ = some (.int .i64 f.fn) ∧ wx.cell? ⟨X, 4, none⟩ = some (.int .i64 f.cap) ∧ wx.cell? ⟨X, 5, none⟩ = some (.bool f.shut) ∧ X < wx.heap.size)) (by kernel_rfl) hS (fun hHeld => ?_)
          refine wpAnyH_take (i := 0) (oi := _) (v := .pointer (some ⟨Y, 0, none⟩)) rfl (by kernel_rfl) (by kernel_rfl) (by kernel_rfl) (fun _ _ _ h => h) (Or.inl ⟨by rfl, (by intro w9 hSw; obtain ⟨s0, s1, s2, s3, s4, s5, s6⟩ := hSw; go_simp)⟩) (by assumption) ?_
          refine wpAnyH_take (i := 1) (oi := _) (v := .pointer (some ⟨Y, 0, none⟩)) rfl (by kernel_rfl) (by kernel_rfl) (by kernel_rfl) (fun _ _ _ h => h) (Or.inl ⟨by rfl, (by intro w9 hSw; obtain ⟨s0, s1, s2, s3, s4, s5, s6⟩ := hSw; go_simp)⟩) (by assumption) ?_
          refine wpAnyH_take (i := 2) (oi := _) (v := .pointer (some ⟨Y, 0, none⟩)) rfl (by kernel_rfl) (by kernel_rfl) (by kernel_rfl) (fun _ _ _ h => h) (Or.inl ⟨by rfl, (by intro w9 hSw; obtain ⟨s0, s1, s2, s3, s4, s5, s6⟩ := hSw; go_simp)⟩) (by assumption) ?_
          go_simp
          refine wpAnyH_take (i := 3) (oi := _) (v := .pointer (some ⟨Y, 2, none⟩)) rfl (by kernel_rfl) (by kernel_rfl) (by kernel_rfl) (fun _ _ _ h => h) (Or.inl ⟨by rfl, (by intro w9 hSw; obtain ⟨s0, s1, s2, s3, s4, s5, s6⟩ := hSw; go_simp)⟩) (by assumption) ?_
          refine wpAnyH_take (i := 5) (oi := _) (v := .agg #[.int .i64 f.kind, .slice ia f.its.length ic, .slice ka f.keys.length kc, .int .i64 f.fn, .int .i64 f.cap, .bool f.shut]) rfl (by kernel_rfl) (by kernel_rfl) (by kernel_rfl) (fun _ _ _ h => h) (Or.inl ⟨by rfl, (by intro w9 hSw; obtain ⟨s0, s1, s2, s3, s4, s5, s6⟩ := hSw; go_simp)⟩) (by assumption) ?_
          go_simp
          have Sd := unhide HSW w2.drew (bl_drew w2)
          obtain ⟨rd2, rdl⟩ := unhide HRW w2.drew (bl_drew w2)
          refine wpAnyH_ready (rs := [4, 6]) (by kernel_rfl) (by simp) ?_
          refine AllReadyH.cons (o := _) rfl (fun K hK => ?_) (AllReadyH.cons (o := _) rfl (fun K hK => ?_) AllReadyH.nil)
          · go_simp
            refine hK.out _ _ (Sd) (fun _ => ?_)
            clear hK K
            go_simp
            refine wpAnyH_ready (rs := [6]) (by kernel_rfl) (by simp) ?_
            refine AllReadyH.cons (o := _) rfl (fun K hK => ?_) AllReadyH.nil
            go_simp
            refine (unhide HTK _ (bl_past (unhide HB2) (bl_drew w2)) (unhide HFR)).mono ?_
            rintro e w3 ⟨d, rfl, hok, hob, hmn, ho1, b3⟩
            have b4 := bl_past (bl_drew w2) b3
            obtain ⟨va, vc, w5, hrun, hS5, hS6, hl5, hk5, hf5, hLd⟩ := unhide HEND w3 d b4 hok hob (fun k hk => Nat.le_trans (bl_drew w2).size (hmn k hk)) ho1
            have HS3 := hide (unhide HSW w3 b4)
            have HR3 := hide (unhide HRW w3 b4)
            have HS4 := hide (unhide HSW (w3.alloc (.cells #[d.face] 62)) (b4.alloc b4.size _))
            have HR4 := hide (unhide HRW (w3.alloc (.cells #[d.face] 62)) (b4.alloc b4.size _))
            have HRUN := hide hrun
            have HLD := hide hLd
            have HS5 := hide hS5
            have HS6 := hide hS6
            clear b4 b3 hmn ho1 hob hok hrun hLd hS5 hS6
            obtain ⟨FT, FB, hFV⟩ : ∃ T B, Hid (d.face = .iface T (.pointer (some ⟨B, 0, none⟩))) := ⟨_, _, hide rfl⟩
            rw [unhide hFV] at HRUN HS4 HR4 ⊢
            go_simp
            refine hK.out _ _ (unhide HS3) (fun _ => ?_)
            clear hK K
            go_simp
            refine wpAnyH_ready (rs := [7]) (by kernel_rfl) (by simp) ?_
            refine AllReadyH.cons (o := _) rfl (fun K hK => ?_) AllReadyH.nil
            go_simp
            refine hK.out _ _ (unhide HS4) (fun _ => ?_)
            clear hK K
            go_simp
            refine wpAnyH_ready (rs := [8]) (by kernel_rfl) (by simp) ?_
            refine AllReadyH.cons (o := _) rfl (fun K hK => ?_) AllReadyH.nil
            refine step_appRun rfl _ _ (by rfl) _ _ _ (by rfl) (by rfl) (unhide HRUN _) ?_
            refine hK.out _ _ (unhide HS5) (fun _ => ?_)
            clear hK K
            go_simp
            refine wpAnyH_take (i := 9) (oi := _) (v := .pointer (some ⟨Y, 0, none⟩)) rfl (by kernel_rfl) (by kernel_rfl) (by kernel_rfl) (fun _ _ _ h => h) (Or.inl ⟨by rfl, (by intro w9 hSw; obtain ⟨s0, s1, s2, s3, s4, s5, s6⟩ := hSw; go_simp)⟩) (unhide HS5) ?_
            go_simp
            refine wpAnyH_take (i := 10) (oi := _) (v := .pointer (some ⟨Y, 2, none⟩)) rfl (by kernel_rfl) (by kernel_rfl) (by kernel_rfl) (fun _ _ _ h => h) (Or.inl ⟨by rfl, (by intro w9 hSw; obtain ⟨s0, s1, s2, s3, s4, s5, s6⟩ := hSw; go_simp)⟩) (unhide HS5) ?_
            go_simp
            refine wpAnyH_ready (rs := [11]) (by kernel_rfl) (by simp) ?_
            refine AllReadyH.cons (o := _) rfl (fun K hK => ?_) AllReadyH.nil
            go_simp
            refine hK.out _ _ (unhide HS6) (fun _ => ?_)
            clear hK K
            go_simp
            refine wpAnyH_done (by kernel_rfl) ?_ _
            go_wp2_with fail
            obtain rfl := unhide hY
            go_roundg (gk - 1)
            case measure => have := unhide hi; omega
            case rel => exact ⟨i + 1, _, _, by have := unhide hi; unfold Hid; omega, by go_num, HLD⟩
          · go_simp
            refine (unhide HTK _ (bl_past (unhide HB2) (bl_drew w2)) (unhide HFR)).mono ?_
            rintro e w3 ⟨d, rfl, hok, hob, hmn, ho1, b3⟩
            have b4 := bl_past (bl_drew w2) b3
            obtain ⟨va, vc, w5, hrun, hS5, hS6, hl5, hk5, hf5, hLd⟩ := unhide HEND w3 d b4 hok hob (fun k hk => Nat.le_trans (bl_drew w2).size (hmn k hk)) ho1
            have HS3 := hide (unhide HSW w3 b4)
            have HR3 := hide (unhide HRW w3 b4)
            have HS4 := hide (unhide HSW (w3.alloc (.cells #[d.face] 62)) (b4.alloc b4.size _))
            have HR4 := hide (unhide HRW (w3.alloc (.cells #[d.face] 62)) (b4.alloc b4.size _))
            have HRUN := hide hrun
            have HLD := hide hLd
            have HS5 := hide hS5
            have HS6 := hide hS6
            clear b4 b3 hmn ho1 hob hok hrun hLd hS5 hS6
            obtain ⟨FT, FB, hFV⟩ : ∃ T B, Hid (d.face = .iface T (.pointer (some ⟨B, 0, none⟩))) := ⟨_, _, hide rfl⟩
            rw [unhide hFV] at HRUN HS4 HR4 ⊢
            go_simp
            refine hK.out _ _ (unhide HS3) (fun _ => ?_)
            clear hK K
            go_simp
            obtain ⟨u2, ul⟩ := unhide HR3
            obtain ⟨x2, xl⟩ := unhide HR4
            refine wpAnyH_ready (rs := [4, 7]) (by kernel_rfl) (by simp) ?_
            refine AllReadyH.cons (o := _) rfl (fun K hK => ?_) (AllReadyH.cons (o := _) rfl (fun K hK => ?_) AllReadyH.nil)
            · go_simp
              refine hK.out _ _ (unhide HS3) (fun _ => ?_)
              clear hK K
              go_simp
              refine wpAnyH_ready (rs := [7]) (by kernel_rfl) (by simp) ?_
              refine AllReadyH.cons (o := _) rfl (fun K hK => ?_) AllReadyH.nil
              go_simp
              refine hK.out _ _ (unhide HS4) (fun _ => ?_)
              clear hK K
              go_simp
              refine wpAnyH_ready (rs := [8]) (by kernel_rfl) (by simp) ?_
              refine AllReadyH.cons (o := _) rfl (fun K hK => ?_) AllReadyH.nil
              refine step_appRun rfl _ _ (by rfl) _ _ _ (by rfl) (by rfl) (unhide HRUN _) ?_
              refine hK.out _ _ (unhide HS5) (fun _ => ?_)
              clear hK K
              go_simp
              refine wpAnyH_take (i := 9) (oi := _) (v := .pointer (some ⟨Y, 0, none⟩)) rfl (by kernel_rfl) (by kernel_rfl) (by kernel_rfl) (fun _ _ _ h => h) (Or.inl ⟨by rfl, (by intro w9 hSw; obtain ⟨s0, s1, s2, s3, s4, s5, s6⟩ := hSw; go_simp)⟩) (unhide HS5) ?_
              go_simp
              refine wpAnyH_take (i := 10) (oi := _) (v := .pointer (some ⟨Y, 2, none⟩)) rfl (by kernel_rfl) (by kernel_rfl) (by kernel_rfl) (fun _ _ _ h => h) (Or.inl ⟨by rfl, (by intro w9 hSw; obtain ⟨s0, s1, s2, s3, s4, s5, s6⟩ := hSw; go_simp)⟩) (unhide HS5) ?_
              go_simp
              refine wpAnyH_ready (rs := [11]) (by kernel_rfl) (by simp) ?_
              refine AllReadyH.cons (o := _) rfl (fun K hK => ?_) AllReadyH.nil
              go_simp
              refine hK.out _ _ (unhide HS6) (fun _ => ?_)
              clear hK K
              go_simp
              refine wpAnyH_done (by kernel_rfl) ?_ _
              go_wp2_with fail
              obtain rfl := unhide hY
              go_roundg (gk - 1)
              case measure => have := unhide hi; omega
              case rel => exact ⟨i + 1, _, _, by have := unhide hi; unfold Hid; omega, by go_num, HLD⟩
            · go_simp
              refine hK.out _ _ (unhide HS4) (fun _ => ?_)
              clear hK K
              go_simp
              refine wpAnyH_ready (rs := [4]) (by kernel_rfl) (by simp) ?_
              refine AllReadyH.cons (o := _) rfl (fun K hK => ?_) AllReadyH.nil
              go_simp
              refine hK.out _ _ (unhide HS4) (fun _ => ?_)
              clear hK K
              go_simp
              refine wpAnyH_ready (rs := [8]) (by kernel_rfl) (by simp) ?_
              refine AllReadyH.cons (o := _) rfl (fun K hK => ?_) AllReadyH.nil
              refine step_appRun rfl _ _ (by rfl) _ _ _ (by rfl) (by rfl) (unhide HRUN _) ?_
              refine hK.out _ _ (unhide HS5) (fun _ => ?_)
              clear hK K
              go_simp
              refine wpAnyH_take (i := 9) (oi := _) (v := .pointer (some ⟨Y, 0, none⟩)) rfl (by kernel_rfl) (by kernel_rfl) (by kernel_rfl) (fun _ _ _ h => h) (Or.inl ⟨by rfl, (by intro w9 hSw; obtain ⟨s0, s1, s2, s3, s4, s5, s6⟩ := hSw; go_simp)⟩) (unhide HS5) ?_
              go_simp
              refine wpAnyH_take (i := 10) (oi := _) (v := .pointer (some ⟨Y, 2, none⟩)) rfl (by kernel_rfl) (by kernel_rfl) (by kernel_rfl) (fun _ _ _ h => h) (Or.inl ⟨by rfl, (by intro w9 hSw; obtain ⟨s0, s1, s2, s3, s4, s5, s6⟩ := hSw; go_simp)⟩) (unhide HS5) ?_
              go_simp
              refine wpAnyH_ready (rs := [11]) (by kernel_rfl) (by simp) ?_
              refine AllReadyH.cons (o := _) rfl (fun K hK => ?_) AllReadyH.nil
              go_simp
              refine hK.out _ _ (unhide HS6) (fun _ => ?_)
              clear hK K
              go_simp
              refine wpAnyH_done (by kernel_rfl) ?_ _
              go_wp2_with fail
              obtain rfl := unhide hY
              go_roundg (gk - 1)
              case measure => have := unhide hi; omega
              case rel => exact ⟨i + 1, _, _, by have := unhide hi; unfold Hid; omega, by go_num, HLD⟩
    · have hiL : i = L := by have := unhide hi; omega
      subst hiL
      have HE : Hid (∃ h ov ds, (Ending.returned (.tuple #[.pointer (some ⟨w.heap.size, 0, none⟩), .bool true]) : Ending) = .returned (.tuple #[.pointer (some ⟨h, 0, none⟩), .bool true]) ∧ hp.Hp wr h (max bud 0) (max sp 0) ov ds ∧ ds.map (·.ob) = os ∧ (∀ k, hp.Fts h ov ds k → w.heap.size ≤ k) ∧ lRb os = true ∧ Below w.heap.size w wr) := by
        obtain ⟨g1, g2, g3, g4, g5⟩ := unhide hG
        rw [List.take_of_length_le (by rw [unhide hL]; exact Nat.le_refl _)] at g2 g5
        exact ⟨_, _, _, rfl, g1, g2, g3, g5, g4⟩
      clear hG HO HV HNO
      go_wp2_with fail
      go_ret2
      obtain ⟨h, ov, ds, e, e1, e2, e3, e4, e5⟩ := unhide HE
      exact ⟨e5, .inr ⟨e4, h, ov, ds, e, e1, e2, e3⟩⟩
end Go.Proofs.Ytfoanikkngmeiaa
