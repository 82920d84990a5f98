/-
  The closure that meets: something new.
-/
import Derived.Test.YtadgiccfjppnfaaPme
import Derived.Deep.RegionHeld3
namespace Go.Proofs.Ytadgiccfjppnfaa
open Go.RowKit
set_option linter.unusedVariables false
set_option linter.unusedSimpArgs false
set_option maxRecDepth 100000 in
set_option maxHeartbeats 6400000 in
theorem meet_obj {w0 : World} {T : List ByteArray} {O : List Ob} {X : List Obv} {ta oa : Option Addr} {tc oc : Nat} (hS : SIn w0 T O X ta oa tc oc) {sv : Array Value} (s0 : sv[0]? = some (.slice ta T.length tc)) (s1 : sv[1]? = some (.slice oa O.length oc)) {pb qb ob mb : Nat} {tv ov : Value} {w : World} {m : List Nat × List Nat} (h : PW w0 T O X sv pb qb ob mb tv ov w m) (hm : MOk T.length O.length m) (hnt : T.length ≤ 1048576) (hno : O.length ≤ 1048576) {k n : Int} (hv : OkV (k, n)) {i : Nat} (hk : k ≠ 4) (hn : n = (i : Int)) (hi : i < O.length) (hin : i ∉ m.2) (hob : (nmO O (k, (i : Int))).isSome = true) (hmet : metV T.length O m (k, n) = (m.1, m.2 ++ [i])) (hb : nmB T.length O (k, n) = true) (hf : mpF O m (k, n) = none) :
    Calls Try.prog 60 #[.agg #[.int .i64 k, .int .i64 n], .pointer (some ⟨pb, 0, none⟩), .pointer (some ⟨qb, 0, none⟩)] w fun e w' => (∃ r, e = .returned r) ∧ MeP w0 T O X sv pb qb ob mb tv ov w (metV T.length O m (k, n)) w' := by
  subst hn
  rw [hmet]
  have f1 : Below w.heap.size w (w.alloc (.cells #[.int .i64 k, .int .i64 (i : Int)] 40)) := (Below.refl _ w).alloc (Nat.le_refl _) _
  have hp1 : Below w.heap.size w (w.alloc (.cells #[.int .i64 k, .int .i64 (i : Int)] 40)) := f1
  have h1 := h.below f1
  have hpb := (blk_cells h.bs).2.2
  have hqb := (blk_cells h.bo).2.2
  obtain ⟨ht1, ht2⟩ : T.length ≤ tc ∧ tc ≤ maxLen := by
    obtain ⟨_, _, et, a, b⟩ := hS.t.shape
    injection et with _ _ e3
    rw [e3]
    exact ⟨a, b⟩
  have HN := hide (names_any (w := w.alloc (.cells #[.int .i64 k, .int .i64 (i : Int)] 40)) (pb := pb) (ta := ta) (oa := oa) (NT := T.length) (tc := tc) (NO := O.length) (oc := oc) (os := O) (by rw [(blk_cells h1.bs).1 0]; exact s0) (by rw [(blk_cells h1.bs).1 1]; exact s1) (hS.os.below h1.bl (Nat.le_refl _)) ⟨ht1, ht2⟩ k (i : Int))
  rw [hb] at HN
  have HH := hide h
  have HV := hide hv
  have HF := hide hf
  have HS := hide hS
  have HIN := hide hin
  have HOB := hide hob
  have HK4 := hide hk
  have hk4 : ((k : Int) == 4) = false := by simpa using hk
  have hxi : X[i]? = some (X.getD i nobv) := by rw [List.getD_eq_getElem?_getD, List.getElem?_eq_getElem (by rw [hS.l]; exact hi)]; rfl
  obtain ⟨oi, hoi⟩ : ∃ o, O[i]? = some o := ⟨_, List.getElem?_eq_getElem hi⟩
  obtain ⟨rb, ro, rcap, er, er1, er2, erb, erc⟩ := Rx.elem zO (l := X) (by rw [hS.l]; exact hS.o) hxi
  rw [hS.l] at er er1
  injection er with er3 er4 er5
  subst er3 er5
  obtain ⟨ia, ic, ka, kc, exo, -, -, -, -, -, -⟩ := (hS.e i _ _ hoi hxi).parts
  obtain ⟨xx, hxx⟩ : ∃ x, Hid (X.getD i nobv = x) := ⟨_, hide rfl⟩
  rw [unhide hxx] at erc exo
  obtain ⟨xk, xiv, xkv, xfn, xcap, xsh⟩ := xx
  injection exo with e1 e2 e3 e4 e5 e6
  have z0 := erc 0 _ rfl
  have z1 := erc 1 _ rfl
  have z2 := erc 2 _ rfl
  have z3 := erc 3 _ rfl
  have z4 := erc 4 _ rfl
  have z5 := erc 5 _ rfl
  rw [Nat.add_zero] at z0
  have HXI := hide e2
  have HXK := hide e3
  obtain ⟨il, hil⟩ : ∃ l, Hid (oi.its.length = l) := ⟨_, hide rfl⟩
  obtain ⟨kl, hkl⟩ : ∃ l, Hid (oi.keys.length = l) := ⟨_, hide rfl⟩
  simp only at z0 z1 z2 z3 z4 z5
  rw [unhide hil] at e2
  rw [unhide hkl] at e3
  rw [e2] at z1
  rw [e3] at z2
  rw [unhide hil] at HXI
  rw [unhide hkl] at HXK
  clear e1 e2 e3 e4 e5 e6
  obtain ⟨RL, hRL⟩ : ∃ l, Hid (O.length = l) := ⟨_, hide rfl⟩
  have hRi : i < RL := by rw [← unhide hRL]; exact hi
  have hR1 : RL ≤ oc := by rw [← unhide hRL]; exact er1
  have HS1 := hide s1
  rw [unhide hRL] at HS1
  have hlm := pigeon _ _ hm.d2 hm.b2
  have hlm1 := pigeon _ _ hm.d1 hm.b1
  have hlm2 := pigeon _ _ hm.d2 hm.b2
  have hbnd : m.1.length + m.2.length ≤ 2097152 := by omega
  have hLb : m.2.length ≤ 1048576 := by omega
  obtain ⟨L, hL⟩ : ∃ l, Hid (m.2.length = l) := ⟨_, hide rfl⟩
  rw [unhide hL] at hLb
  obtain ⟨la, lc, elv, l1, l2⟩ := h.or.ro.shape
  rw [unhide hL] at elv l1
  have HEL := hide elv
  clear h h1 hS hm hv hb hf hmet hin er1 er4 erc hi s0 s1 elv hlm hlm1 hlm2 hxi hoi hob hk
  go_enter Try.func60, Try.ntmps60
  go_wp2_with fail
  refine (unhide HN).mono ?_
  rintro e w2 ⟨rfl, hb2⟩
  have HB := hide (bl_past hp1 hb2)
  have b3 := bkeep1 (heap_alloc_new w (.cells #[.int .i64 k, .int .i64 (i : Int)] 40)) hb2
  have h2 := (unhide HH).below (unhide HB)
  have q0 := (blk_cells h2.bo).1 0
  have o2 := (blk_cells h2.or.box).1 2
  have v0 := (blk_cells b3).1 0
  have v1 := (blk_cells b3).1 1
  simp at q0 o2 v0 v1
  have hlk : ∀ nq, (Instr.lookup 71 (.map (some mb)) (.agg #[.int .i64 k, .int .i64 (i : Int)]) true).run Try.prog (w2.drewN nq) = .ok (.tuple #[.int .i64 0, .bool false]) (w2.drewN nq) := fun nq => by
    have := ((h2.below (bl_drewN w2 nq)).or.mp).look (k, (i : Int)) (unhide HV)
    rw [unhide HF] at this
    exact this
  have hl2 := (blk_cells h2.bo).2.2
  have hl3 := (blk_cells h2.or.box).2.2
  have hl4 := (blk_cells b3).2.2
  have HB3 := hide b3
  clear hb2 h2 b3
  go_wp2_with fail
  go_quiet (fail)
  obtain ⟨Y, hY⟩ : ∃ Y, Hid (w2.drewN nq = Y) := ⟨_, hide rfl⟩
  have HY : Hid (Below w2.heap.size w2 Y) := by rw [← unhide hY]; exact hide (bl_drewN w2 nq)
  rw [unhide hY]
  clear hY hlk q0 o2 v0 v1 hl2 hl3 hl4
  have HBY := hide (bl_past (unhide HB) (unhide HY))
  have hY := (unhide HH).below (unhide HBY)
  have b4 := bkeep1 (unhide HB3) (unhide HY)
  obtain ⟨Z, hZ⟩ : ∃ Z, Hid (Y.drew = Z) := ⟨_, hide rfl⟩
  have HYZ : Hid (Below Y.heap.size Y Z) := by rw [← unhide hZ]; exact hide (bl_drew Y)
  have hZP := hY.below (unhide HYZ)
  have b5 := bkeep1 b4 (unhide HYZ)
  have HBZ := hide (bl_past (unhide HBY) (unhide HYZ))
  have v0 := (blk_cells b4).1 0
  have v1 := (blk_cells b4).1 1
  have lv := (blk_cells b4).2.2
  have q0 := (blk_cells hY.bo).1 0
  have lq := (blk_cells hY.bo).2.2
  have o2 := (blk_cells hY.or.box).1 2
  have of := (blk_cells hY.or.box).1 1
  have lo := (blk_cells hY.or.box).2.2
  simp at v0 v1 q0 o2 of
  rw [unhide HEL] at of
  obtain ⟨W3, hput0, hms, hgr⟩ := hZP.or.mp.put (k, (i : Int)) (unhide HV) (unhide HF) L (by omega) (by unfold maxLen; omega)
  have hput := hput0
  rw [← unhide hZ] at hput
  have fm : Fr (fun b => b = mb) Z W3 := (Fr.refl _ Z).grown hgr (fun b e => .inr (by cases e; rfl))
  have fo : Fr (orb tv ov ob mb) Z W3 := fm.mono (fun b _ e => .inr (.inl e))
  have hNs : w.heap.size < Z.heap.size := (blk_cells b5).2.2
  have hnv : ¬ orb tv ov ob mb w.heap.size := fun e => by have := ((unhide HH).or.in e).2; omega
  have hZb : ∀ b, b < w0.heap.size → b < Z.heap.size ∧ ¬ orb tv ov ob mb b := fun b hb => ⟨Nat.lt_of_lt_of_le hb hZP.bl.size, fun e => by have := (hZP.or.in e).1; omega⟩
  have HZC : Hid (∀ W, Fr (orb tv ov ob mb) Z W → W.cell? ⟨qb, 0, none⟩ = some (.pointer (some ⟨ob, 0, none⟩)) ∧ W.cell? ⟨w.heap.size, 0, none⟩ = some (.int .i64 k) ∧ W.cell? ⟨w.heap.size, 1, none⟩ = some (.int .i64 (i : Int)) ∧ W.cell? ⟨pb, 1, none⟩ = some (.slice (some ⟨rb, ro, none⟩) RL oc) ∧ (W.cell? ⟨rb, ro + i * 6, none⟩ = some (.int .i64 xk) ∧ W.cell? ⟨rb, ro + i * 6 + 1, none⟩ = some (.slice ia il ic) ∧ W.cell? ⟨rb, ro + i * 6 + 2, none⟩ = some (.slice ka kl kc) ∧ W.cell? ⟨rb, ro + i * 6 + 3, none⟩ = some (.int .i64 xfn) ∧ W.cell? ⟨rb, ro + i * 6 + 4, none⟩ = some (.int .i64 xcap) ∧ W.cell? ⟨rb, ro + i * 6 + 5, none⟩ = some (.bool xsh))) := by
    intro W fW
    have c1 := (blk_cells ((fW.block qb (blk_cells hZP.bo).2.2 hZP.nq).trans hZP.bo)).1
    have c2 := (blk_cells ((fW.block w.heap.size hNs hnv).trans b5)).1
    have c3 := (blk_cells ((fW.block pb (blk_cells hZP.bs).2.2 hZP.np).trans hZP.bs)).1
    have zb := hZb rb erb
    refine ⟨by rw [c1 0]; rfl, by rw [c2 0]; rfl, by rw [c2 1]; rfl, by rw [c3 1]; exact unhide HS1, ⟨((fW.cell (a := ⟨rb, ro + i * 6, none⟩) zb.1 zb.2).trans ((hZP.bl.cell (p := ⟨rb, ro + i * 6, none⟩) erb).trans z0)), ((fW.cell (a := ⟨rb, ro + i * 6 + 1, none⟩) zb.1 zb.2).trans ((hZP.bl.cell (p := ⟨rb, ro + i * 6 + 1, none⟩) erb).trans z1)), ((fW.cell (a := ⟨rb, ro + i * 6 + 2, none⟩) zb.1 zb.2).trans ((hZP.bl.cell (p := ⟨rb, ro + i * 6 + 2, none⟩) erb).trans z2)), ((fW.cell (a := ⟨rb, ro + i * 6 + 3, none⟩) zb.1 zb.2).trans ((hZP.bl.cell (p := ⟨rb, ro + i * 6 + 3, none⟩) erb).trans z3)), ((fW.cell (a := ⟨rb, ro + i * 6 + 4, none⟩) zb.1 zb.2).trans ((hZP.bl.cell (p := ⟨rb, ro + i * 6 + 4, none⟩) erb).trans z4)), ((fW.cell (a := ⟨rb, ro + i * 6 + 5, none⟩) zb.1 zb.2).trans ((hZP.bl.cell (p := ⟨rb, ro + i * 6 + 5, none⟩) erb).trans z5))⟩⟩
  have HMS := hide hms
  have HFM := hide fm
  have HFO := hide fo
  have HZP := hide hZP
  have ofZ : W3.heap[ob]? = some (.cells #[tv, ov, .map (some mb)] 73) := (fm.block ob (blk_cells hZP.or.box).2.2 (fun e => hZP.or.bm.2 e.symm)).trans hZP.or.box
  have HOZ := hide ofZ
  have HS5 : Hid (∀ W, Fr (orb tv ov ob mb) Z W → W.heap[ob]? = some (.cells #[tv, ov, .map (some mb)] 73) → W.cell? ⟨qb, 0, none⟩ = some (.pointer (some ⟨ob, 0, none⟩)) ∧ W.cell? ⟨w.heap.size, 0, none⟩ = some (.int .i64 k) ∧ W.cell? ⟨w.heap.size, 1, none⟩ = some (.int .i64 (i : Int)) ∧ W.cell? ⟨ob, 2, none⟩ = some (.map (some mb)) ∧ W.cell? ⟨ob, 1, none⟩ = some (.slice la L lc)) := by
    intro W fW hob
    have a := unhide HZC W fW
    have c := (blk_cells hob).1
    exact ⟨a.1, a.2.1, a.2.2.1, by rw [c 2]; rfl, by rw [c 1, ← unhide HEL]; rfl⟩
  have HSd : Hid (Y.drew.cell? ⟨qb, 0, none⟩ = some (.pointer (some ⟨ob, 0, none⟩)) ∧ Y.drew.cell? ⟨w.heap.size, 0, none⟩ = some (.int .i64 k) ∧ Y.drew.cell? ⟨w.heap.size, 1, none⟩ = some (.int .i64 (i : Int)) ∧ Y.drew.cell? ⟨ob, 2, none⟩ = some (.map (some mb)) ∧ Y.drew.cell? ⟨ob, 1, none⟩ = some (.slice la L lc)) := by
    rw [unhide hZ]; exact unhide HS5 Z (Fr.refl _ _) hZP.or.box
  have HS3 := hide (unhide HS5 W3 fo ofZ)
  clear hms hgr hput0 fm fo hZP ofZ hY b4 b5 hZb erb z0 z1 z2 z3 z4 z5
  go_wp2_with fail
  go_region_held3 (fun W => W.cell? ⟨qb, 0, none⟩ = some (.pointer (some ⟨ob, 0, none⟩)) ∧ W.cell? ⟨w.heap.size, 0, none⟩ = some (.int .i64 k) ∧ W.cell? ⟨w.heap.size, 1, none⟩ = some (.int .i64 (i : Int)) ∧ W.cell? ⟨ob, 2, none⟩ = some (.map (some mb)) ∧ W.cell? ⟨ob, 1, none⟩ = some (.slice la L lc)) (first | exact unhide HSd | exact unhide HS3 | go_keep) (fail)
  obtain ⟨V, hV⟩ : ∃ V, Hid (W3.drew = V) := ⟨_, hide rfl⟩
  have f3V : Below W3.heap.size W3 V := by rw [← unhide hV]; exact bl_drew W3
  obtain ⟨Wa, hWa⟩ : ∃ Wa, Hid (V.alloc (.cells #[.int .i64 xk, .slice ia il ic, .slice ka kl kc, .int .i64 xfn, .int .i64 xcap, .bool xsh] 43) = Wa) := ⟨_, hide rfl⟩
  have fVa : Below V.heap.size V Wa := by rw [← unhide hWa]; exact (Below.refl _ V).alloc (Nat.le_refl _) _
  have f3a : Below W3.heap.size W3 Wa := bl_past f3V fVa
  have fZa : Fr (orb tv ov ob mb) Z Wa := (unhide HFO).trans (Fr.of_below f3a)
  have hrow : Ro Wa 6 (.slice la L lc) L (flt enO (m.2.map fun j => X.getD j nobv)) := by
    have := ((unhide HZP).or.ro.fr (unhide HFM) (fun b hb e => ((unhide HZP).or.fo b hb).2.2.1 e)).fr (Fr.of_below (S := fun _ => False) f3a) (fun _ _ e => e)
    rw [unhide HEL, unhide hL] at this
    exact this
  obtain ⟨j0, hj0, hz0, hz1, hz2⟩ := info_parts infO
  have hnc := new_cells V  #[.int .i64 xk, .slice ia il ic, .slice ka kl kc, .int .i64 xfn, .int .i64 xcap, .bool xsh] 43
  rw [unhide hWa] at hnc
  obtain ⟨v', w4, hrun, r1, r2, r3⟩ := Ro.app (P := Try.prog) 23 23 43 j0 _ 6 80 Try.underlying23 hj0 hz0 hz1 hz2 rfl (by decide) hrow ⟨V.heap.size, 0, none⟩ 1 1 (enO (⟨xk, .slice ia il ic, .slice ka kl kc, xfn, xcap, xsh⟩ : Obv)) rfl hnc (by simp [enO, Value.oneCell']) (by omega) (by unfold maxLen; omega) (by omega)
  obtain ⟨va, vc, ev, -, -⟩ := r1.shape
  have hxg : X.getD i nobv = (⟨xk, .slice ia il ic, .slice ka kl kc, xfn, xcap, xsh⟩ : Obv) := by rw [unhide hxx, unhide HXI, unhide HXK]
  obtain ⟨t1, t2, t3⟩ := (unhide HZP).or.addO (unhide HIN) (unhide HK4) (unhide HOB) (unhide HZP).bl.size (by have := unhide HMS; rw [← unhide hL] at this; exact this) (unhide HFM) f3a (v' := v') (w2 := w4) (by rw [hxg]; exact r1) (by rw [unhide hL]) (by rw [unhide HEL]; exact r2) (by rw [unhide HEL]; exact r3)
  have HRES : Hid (MeP w0 T O X sv pb qb ob mb tv ov w (m.1, m.2 ++ [i]) (w4.setCell ⟨ob, 1, none⟩ v')) := ⟨_, _, (unhide HZP).on t1 t2, (OrT.of_below (unhide HBZ)).trans t2⟩
  have f4 : Fr (orb tv ov ob mb) Z w4 := fZa.grown r2 (fun b e => .inr (.inr (.inr (.inr (by rw [unhide HEL]; exact e)))))
  have HSV := hide (unhide HZC V ((unhide HFO).trans (Fr.of_below f3V)))
  have HSa := hide (unhide HZC Wa fZa)
  have HSw := hide (unhide HZC w4 f4)
  have HSs := hide (unhide HZC (w4.setCell ⟨ob, 1, none⟩ v') (f4.setCell ⟨ob, 1, none⟩ (.inr (.inl rfl)) v'))
  have oV := bkeep1 (unhide HOZ) f3V
  have oa' := bkeep1 (unhide HOZ) f3a
  have u0 : V.cell? ⟨ob, 1, none⟩ = some (.slice la L lc) := by rw [(blk_cells oV).1 1, ← unhide HEL]; rfl
  have u1 : Wa.cell? ⟨ob, 1, none⟩ = some (.slice la L lc) := by rw [(blk_cells oa').1 1, ← unhide HEL]; rfl
  have u2 : w4.cell? ⟨ob, 1, none⟩ = some (.slice la L lc) := by rw [(blk_cells t3).1 1, ← unhide HEL]; rfl
  have uf := (blk_cells t3).2.1 1
  have ul := (blk_cells t3).2.2
  have HRUN := hide hrun
  have i0 : (0 : Int) ≤ (i : Int) := by omega
  have i1 : (i : Int) < (RL : Int) := by omega
  subst ev
  clear t1 t2 t3 r1 r2 r3 hrun hrow hnc fZa f4 f3V fVa f3a oV oa' HS3 HSd HS5 HZC hput v0 v1 q0 o2 of
  go_wp2_with fail
  refine wp_region_held_drew (S := (fun W => W.cell? ⟨qb, 0, none⟩ = some (.pointer (some ⟨ob, 0, none⟩)) ∧ W.cell? ⟨w.heap.size, 0, none⟩ = some (.int .i64 k) ∧ W.cell? ⟨w.heap.size, 1, none⟩ = some (.int .i64 (i : Int)) ∧ W.cell? ⟨pb, 1, none⟩ = some (.slice (some ⟨rb, ro, none⟩) RL oc) ∧ (W.cell? ⟨rb, ro + i * 6, none⟩ = some (.int .i64 xk) ∧ W.cell? ⟨rb, ro + i * 6 + 1, none⟩ = some (.slice ia il ic) ∧ W.cell? ⟨rb, ro + i * 6 + 2, none⟩ = some (.slice ka kl kc) ∧ W.cell? ⟨rb, ro + i * 6 + 3, none⟩ = some (.int .i64 xfn) ∧ W.cell? ⟨rb, ro + i * 6 + 4, none⟩ = some (.int .i64 xcap) ∧ W.cell? ⟨rb, ro + i * 6 + 5, none⟩ = some (.bool xsh)))) (by kernel_rfl) (by rw [unhide hV]; exact unhide HSV) (fun hHeld => ?_)
  clear hHeld
  rw [unhide hV]
  refine wpAnyH_take (i := 0) (oi := _) (v := .pointer (some ⟨ob, 0, none⟩)) rfl (by kernel_rfl) (by kernel_rfl) (by kernel_rfl) (fun _ _ _ h => h) (Or.inl ⟨by rfl, (by intro w' hSw; obtain ⟨s0, s1, s2, s3, s4, s5, s6, s7, s8, s9⟩ := hSw; go_simp)⟩) (unhide HSV) ?_
  go_simp
  refine wpAnyH_take (i := 1) (oi := _) (v := .pointer (some ⟨ob, 0, none⟩)) rfl (by kernel_rfl) (by kernel_rfl) (by kernel_rfl) (fun _ _ _ h => h) (Or.inl ⟨by rfl, (by intro w' hSw; obtain ⟨s0, s1, s2, s3, s4, s5, s6, s7, s8, s9⟩ := hSw; go_simp)⟩) (unhide HSV) ?_
  go_simp
  refine wpAnyH_take (i := 2) (oi := _) (v := .pointer (some ⟨ob, 0, none⟩)) rfl (by kernel_rfl) (by kernel_rfl) (by kernel_rfl) (fun _ _ _ h => h) (Or.inl ⟨by rfl, (by intro w' hSw; go_simp)⟩) (unhide HSV) ?_
  go_simp
  refine wpAnyH_take (i := 3) (oi := _) (v := .pointer (some ⟨ob, 1, none⟩)) rfl (by kernel_rfl) (by kernel_rfl) (by kernel_rfl) (fun _ _ _ h => h) (Or.inl ⟨by rfl, (by intro w' hSw; go_simp)⟩) (unhide HSV) ?_
  go_simp
  refine wpAnyH_take (i := 5) (oi := _) (v := .pointer (some ⟨pb, 1, none⟩)) rfl (by kernel_rfl) (by kernel_rfl) (by kernel_rfl) (fun _ _ _ h => h) (Or.inl ⟨by rfl, (by intro w' hSw; go_simp)⟩) (unhide HSV) ?_
  go_simp
  refine wpAnyH_take (i := 6) (oi := _) (v := (.slice (some ⟨rb, ro, none⟩) RL oc)) rfl (by kernel_rfl) (by kernel_rfl) (by kernel_rfl) (fun _ _ _ h => h) (Or.inl ⟨by rfl, (by intro w' hSw; obtain ⟨s0, s1, s2, s3, s4, s5, s6, s7, s8, s9⟩ := hSw; go_simp)⟩) (unhide HSV) ?_
  go_simp
  refine wpAnyH_take (i := 7) (oi := _) (v := .pointer (some ⟨w.heap.size, 1, none⟩)) rfl (by kernel_rfl) (by kernel_rfl) (by kernel_rfl) (fun _ _ _ h => h) (Or.inl ⟨by rfl, (by intro w' hSw; go_simp)⟩) (unhide HSV) ?_
  go_simp
  refine wpAnyH_take (i := 8) (oi := _) (v := .int .i64 (i : Int)) rfl (by kernel_rfl) (by kernel_rfl) (by kernel_rfl) (fun _ _ _ h => h) (Or.inl ⟨by rfl, (by intro w' hSw; obtain ⟨s0, s1, s2, s3, s4, s5, s6, s7, s8, s9⟩ := hSw; go_simp)⟩) (unhide HSV) ?_
  go_simp
  refine wpAnyH_take (i := 9) (oi := _) (v := (.pointer (some ⟨rb, ro + i * 6, none⟩))) rfl (by kernel_rfl) (by kernel_rfl) (by kernel_rfl) (fun _ _ _ h => h) (Or.inl ⟨by rfl, (by intro w' hSw; go_simp)⟩) (unhide HSV) ?_
  go_simp
  refine wpAnyH_take (i := 10) (oi := _) (v := (.agg #[.int .i64 xk, .slice ia il ic, .slice ka kl kc, .int .i64 xfn, .int .i64 xcap, .bool xsh])) rfl (by kernel_rfl) (by kernel_rfl) (by kernel_rfl) (fun _ _ _ h => h) (Or.inl ⟨by rfl, (by intro w' hSw; obtain ⟨s0, s1, s2, s3, s4, s5, s6, s7, s8, s9⟩ := hSw; go_simp)⟩) (unhide HSV) ?_
  go_simp
  refine wpAnyH_ready (rs := [4, 11]) (by kernel_rfl) (by simp) ?_
  refine AllReadyH.cons (o := _) rfl (fun K hK => ?_) (AllReadyH.cons (o := _) rfl (fun K hK => ?_) AllReadyH.nil)
  · go_simp
    refine hK.out _ _ (unhide HSV) (fun _ => ?_)
    clear hK K
    go_simp
    refine wpAnyH_ready (rs := [11]) (by kernel_rfl) (by simp) ?_
    refine AllReadyH.cons (o := _) rfl (fun K hK => ?_) AllReadyH.nil
    go_simp
    rw [unhide hWa]
    refine hK.out _ _ (unhide HSa) (fun _ => ?_)
    clear hK K
    go_simp
    refine wpAnyH_ready (rs := [12]) (by kernel_rfl) (by simp) ?_
    refine AllReadyH.cons (o := _) rfl (fun K hK => ?_) AllReadyH.nil
    refine step_appRun rfl _ _ (by rfl) _ _ _ (by rfl) (by rfl) (unhide HRUN) ?_
    refine hK.out _ _ (unhide HSw) (fun _ => ?_)
    clear hK K
    go_simp
    refine wpAnyH_take (i := 13) (oi := _) (v := .pointer (some ⟨ob, 0, none⟩)) rfl (by kernel_rfl) (by kernel_rfl) (by kernel_rfl) (fun _ _ _ h => h) (Or.inl ⟨by rfl, (by intro w' hSw; go_simp)⟩) (unhide HSw) ?_
    go_simp
    refine wpAnyH_take (i := 14) (oi := _) (v := .pointer (some ⟨ob, 1, none⟩)) rfl (by kernel_rfl) (by kernel_rfl) (by kernel_rfl) (fun _ _ _ h => h) (Or.inl ⟨by rfl, (by intro w' hSw; go_simp)⟩) (unhide HSw) ?_
    go_simp
    refine wpAnyH_ready (rs := [15]) (by kernel_rfl) (by simp) ?_
    refine AllReadyH.cons (o := _) rfl (fun K hK => ?_) AllReadyH.nil
    go_simp
    refine hK.out _ _ (unhide HSs) (fun _ => ?_)
    clear hK K
    refine wpAnyH_done (by kernel_rfl) ?_ _
    go_wp2_with fail
    go_end0
    exact ⟨⟨_, rfl⟩, unhide HRES⟩
  · go_simp
    rw [unhide hWa]
    refine hK.out _ _ (unhide HSa) (fun _ => ?_)
    clear hK K
    go_simp
    refine wpAnyH_ready (rs := [4]) (by kernel_rfl) (by simp) ?_
    refine AllReadyH.cons (o := _) rfl (fun K hK => ?_) AllReadyH.nil
    go_simp
    refine hK.out _ _ (unhide HSa) (fun _ => ?_)
    clear hK K
    go_simp
    refine wpAnyH_ready (rs := [12]) (by kernel_rfl) (by simp) ?_
    refine AllReadyH.cons (o := _) rfl (fun K hK => ?_) AllReadyH.nil
    refine step_appRun rfl _ _ (by rfl) _ _ _ (by rfl) (by rfl) (unhide HRUN) ?_
    refine hK.out _ _ (unhide HSw) (fun _ => ?_)
    clear hK K
    go_simp
    refine wpAnyH_take (i := 13) (oi := _) (v := .pointer (some ⟨ob, 0, none⟩)) rfl (by kernel_rfl) (by kernel_rfl) (by kernel_rfl) (fun _ _ _ h => h) (Or.inl ⟨by rfl, (by intro w' hSw; go_simp)⟩) (unhide HSw) ?_
    go_simp
    refine wpAnyH_take (i := 14) (oi := _) (v := .pointer (some ⟨ob, 1, none⟩)) rfl (by kernel_rfl) (by kernel_rfl) (by kernel_rfl) (fun _ _ _ h => h) (Or.inl ⟨by rfl, (by intro w' hSw; go_simp)⟩) (unhide HSw) ?_
    go_simp
    refine wpAnyH_ready (rs := [15]) (by kernel_rfl) (by simp) ?_
    refine AllReadyH.cons (o := _) rfl (fun K hK => ?_) AllReadyH.nil
    go_simp
    refine hK.out _ _ (unhide HSs) (fun _ => ?_)
    clear hK K
    refine wpAnyH_done (by kernel_rfl) ?_ _
    go_wp2_with fail
    go_end0
    exact ⟨⟨_, rfl⟩, unhide HRES⟩
end Go.Proofs.Ytadgiccfjppnfaa
