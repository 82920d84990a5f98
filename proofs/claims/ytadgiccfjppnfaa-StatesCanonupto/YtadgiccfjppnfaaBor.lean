/-
  The document's book: a record with new numbers.
-/
import Derived.Test.YtadgiccfjppnfaaBop
namespace Go.Proofs.Ytadgiccfjppnfaa
open Go.RowKit
set_option linter.unusedVariables false
set_option linter.unusedSimpArgs false
theorem recS_both (nt : Nat) (O : List Ob) (m : List Nat × List Nat) (keys : List Int) (its : List (Int × Int)) (i : Nat) {k : Int} {v : Int × Int} (hk : keys[i]? = some k) (hv : its[i]? = some v) :
    recS nt O m keys its (i + 1) = (metV nt O (addT nt (recS nt O m keys its i).1.1 k, (recS nt O m keys its i).1.2) v, (recS nt O m keys its i).2.1 ++ [numT nt (addT nt (recS nt O m keys its i).1.1 k) k], (recS nt O m keys its i).2.2 ++ [numV nt O (metV nt O (addT nt (recS nt O m keys its i).1.1 k, (recS nt O m keys its i).1.2) v) v]) := by
  simp only [recS, hk, hv]
theorem recS_key (nt : Nat) (O : List Ob) (m : List Nat × List Nat) (keys : List Int) (its : List (Int × Int)) (i : Nat) {k : Int} (hk : keys[i]? = some k) (hv : its[i]? = none) :
    recS nt O m keys its (i + 1) = ((addT nt (recS nt O m keys its i).1.1 k, (recS nt O m keys its i).1.2), (recS nt O m keys its i).2.1 ++ [numT nt (addT nt (recS nt O m keys its i).1.1 k) k], (recS nt O m keys its i).2.2) := by
  simp only [recS, hk, hv]
theorem recS_item (nt : Nat) (O : List Ob) (m : List Nat × List Nat) (keys : List Int) (its : List (Int × Int)) (i : Nat) {v : Int × Int} (hk : keys[i]? = none) (hv : its[i]? = some v) :
    recS nt O m keys its (i + 1) = (metV nt O (recS nt O m keys its i).1 v, (recS nt O m keys its i).2.1, (recS nt O m keys its i).2.2 ++ [numV nt O (metV nt O (recS nt O m keys its i).1 v) v]) := by
  simp only [recS, hk, hv]
theorem appLn {w : World} {ops : Array Oper} {rest : List Oper} {o : Oper} {a : Act} {Q : Exit → Act → World → Prop}
    (hg : o.guard = none) (s x : Operand) (hop : o.op = Op.call { callee := Callee.builtin Builtin.append, args := #[s, x], argTypes := #[41, 41] })
    (v : Value) (n : Nat) (l : List Int) (hs : a.eval s = v) (hr : Ro w 1 v n (flt enL l)) (ad : Addr) (c : Nat) (p : Int) (hx : a.eval x = .slice (some ad) 1 c) (hc : ∀ j u, (enL p)[j]? = some u → w.cell? (ad.add j) = some u)
    (hN : n ≤ 3000000000000)
    (hK : ∀ v' w', Ro w' 1 v' (n + 1) (flt enL l ++ enL p) → w.grownBy w' v.ownBlock → (v'.ownBlock = v.ownBlock ∨ v'.ownBlock = some w.heap.size) → wpList Try.prog ops Q rest (a.put o.dst v') w') :
    wpList Try.prog ops Q (o :: rest) a w := by
  obtain ⟨i0, hi0, hz0, hz1, hz2⟩ := info_parts infL
  exact wpList_app hg s x 41 hop 2 i0 _ 1 8 Try.underlying41 hi0 hz0 hz1 hz2 rfl (by decide) v n (flt enL l) hs hr ad 1 c (enL p) hx rfl hc (by simp [enL, Value.oneCell']) (by omega) (by unfold maxLen; omega) (by omega) hK
theorem appVn {w : World} {ops : Array Oper} {rest : List Oper} {o : Oper} {a : Act} {Q : Exit → Act → World → Prop}
    (hg : o.guard = none) (s x : Operand) (hop : o.op = Op.call { callee := Callee.builtin Builtin.append, args := #[s, x], argTypes := #[36, 36] })
    (v : Value) (n : Nat) (l : List (Int × Int)) (hs : a.eval s = v) (hr : Ro w 2 v n (flt enI l)) (ad : Addr) (c : Nat) (p : Int × Int) (hx : a.eval x = .slice (some ad) 1 c) (hc : ∀ j u, (enI p)[j]? = some u → w.cell? (ad.add j) = some u)
    (hN : n ≤ 3000000000000)
    (hK : ∀ v' w', Ro w' 2 v' (n + 1) (flt enI l ++ enI p) → w.grownBy w' v.ownBlock → (v'.ownBlock = v.ownBlock ∨ v'.ownBlock = some w.heap.size) → wpList Try.prog ops Q rest (a.put o.dst v') w') :
    wpList Try.prog ops Q (o :: rest) a w := by
  obtain ⟨i0, hi0, hz0, hz1, hz2⟩ := info_parts Try.info40
  exact wpList_app hg s x 36 hop 40 i0 _ 2 16 Try.underlying36 hi0 hz0 hz1 hz2 rfl (by decide) v n (flt enI l) hs hr ad 1 c (enI p) hx rfl hc (by simp [enI, Value.oneCell']) (by omega) (by unfold maxLen; omega) (by omega) hK
set_option maxRecDepth 100000 in
set_option maxHeartbeats 6400000 in
theorem bobject_rec {w0 : World} {bb nt no : Nat} {c : Nat → Value} {w : World} {m : List Nat × List Nat} {O : List Ob} (h : BkM w0.heap.size bb nt no c w m.1 m.2) {ta oa : Option Addr} {tc oc : Nat} (h0 : c 0 = .slice ta nt tc) (h1 : c 1 = .slice oa no oc) (hO : OsV w0 (.slice oa no oc) O) (hm : MOk nt no m) (hnt : nt ≤ 1048576) (hno : no ≤ 1048576) (hw : Below w0.heap.size w0 w)
    {v : Value} {o : Ob} (ho : ObA w0 v o) (hN : o.its.length ≤ 1048576) (hK : o.keys.length ≤ 1048576) (hkd : o.kind = 7) :
    Calls Try.prog 28 #[.pointer (some ⟨bb, 0, none⟩), v] w (ObP w0.heap.size bb nt no c w (metO nt O m o) (numO nt O m o)) := by
  obtain ⟨_, _, eO, _, _⟩ := hO.shape
  have hnoE : no = O.length := by cases eO; rfl
  subst hnoE
  clear eO
  obtain ⟨iv, kv, rfl, hi, hk⟩ := ho
  obtain ⟨ia, ic, rfl, i1, i2⟩ := hi.shape
  obtain ⟨ka, kc, rfl, k1, k2⟩ := hk.shape
  unfold maxLen at i2 k2
  have hlt : Hid (∀ k, bkb c bb k → k < w.heap.size) := fun k hk => (h.in hk).2
  have hw0 := hw.size
  obtain ⟨KD, hKD⟩ : ∃ n, Hid (o.kind = n) := ⟨_, hide rfl⟩
  obtain ⟨IL, hIL⟩ : ∃ n, Hid (o.its.length = n) := ⟨_, hide rfl⟩
  obtain ⟨KL, hKL⟩ : ∃ n, Hid (o.keys.length = n) := ⟨_, hide rfl⟩
  have em : Hid (metO nt O m o = (recS nt O m o.keys o.its (max o.keys.length o.its.length)).1) := by unfold metO; rw [if_pos hkd]; exact hide rfl
  have en : Hid (numO nt O m o = { o with its := (recS nt O m o.keys o.its (max o.keys.length o.its.length)).2.2, keys := (recS nt O m o.keys o.its (max o.keys.length o.its.length)).2.1 }) := by unfold numO; rw [if_pos hkd]; exact hide rfl
  have HIc := hide (fun i p (hp : o.its[i]? = some p) => hi.elem zI hp)
  have HKc := hide (fun i p (hp : o.keys[i]? = some p) => hk.elem zL hp)
  have HBW : Hid (∀ W, Fr (bkb c bb) w W → Below w0.heap.size w0 W) := fun wr hf => hw.trans (hf.below hw0 (fun k hk e => by have := (h.in e).1; omega))
  have HM := hide h
  have HO := hide hO
  have HMK := hide hm
  have HH0 := hide h0
  have HH1 := hide h1
  rw [unhide hKD] at hkd
  rw [unhide hKD, unhide hIL, unhide hKL]
  rw [unhide hIL] at HIc i1 hN em en
  rw [unhide hKL] at HKc k1 hK em en
  subst hkd
  obtain ⟨M, hM⟩ : ∃ n, Hid (max KL IL = n) := ⟨_, hide rfl⟩
  rw [unhide hM] at em en
  have hMb : M ≤ 1048576 ∧ KL ≤ M ∧ IL ≤ M ∧ (M = KL ∨ M = IL) := by have := unhide hM; omega
  obtain ⟨hM1, hM2, hM3, hM4⟩ := hMb
  obtain ⟨p1, p2, p3⟩ := blk3 w (.cells #[.int .i64 7, .slice ia IL ic, .slice ka KL kc, .int .i64 o.fn, .int .i64 o.cap, .bool o.shut] 43) (.cells #[.int .i64 0, .slice none 0 0, .slice none 0 0, .int .i64 0, .int .i64 0, .bool false] 43) (.cells #[.int .i64 7, .slice none 0 0, .slice none 0 0, .int .i64 o.fn, .int .i64 o.cap, .bool o.shut] 43)
  have HR0 : Hid (RcI w0.heap.size bb nt O.length c w #[.int .i64 7, .slice ia IL ic, .slice ka KL kc, .int .i64 o.fn, .int .i64 o.cap, .bool o.shut] o (recS nt O m o.keys o.its 0).1 (((w.alloc (.cells #[.int .i64 7, .slice ia IL ic, .slice ka KL kc, .int .i64 o.fn, .int .i64 o.cap, .bool o.shut] 43)).alloc (.cells #[.int .i64 0, .slice none 0 0, .slice none 0 0, .int .i64 0, .int .i64 0, .bool false] 43)).alloc (.cells #[.int .i64 7, .slice none 0 0, .slice none 0 0, .int .i64 o.fn, .int .i64 o.cap, .bool o.shut] 43)) (.slice none 0 0) (.slice none 0 0) (recS nt O m o.keys o.its 0).2.1 (recS nt O m o.keys o.its 0).2.2) := by
    have hb3 := bl_three w (.cells #[.int .i64 7, .slice ia IL ic, .slice ka KL kc, .int .i64 o.fn, .int .i64 o.cap, .bool o.shut] 43) (.cells #[.int .i64 0, .slice none 0 0, .slice none 0 0, .int .i64 0, .int .i64 0, .bool false] 43) (.cells #[.int .i64 7, .slice none 0 0, .slice none 0 0, .int .i64 o.fn, .int .i64 o.cap, .bool o.shut] 43)
    refine hide ⟨c, ⟨h.below hb3, Fr.of_below hb3, fun k hk => .inl hk, unhide hlt, fun _ _ => rfl, by simpa [flt, recS] using Ro.nil _ _, by simpa [flt, recS] using Ro.nil _ _, by simp [Value.ownBlock], by simp [Value.ownBlock], p1, p2, ?_⟩⟩
    rw [unhide hKD]
    exact p3
  clear h hO hm hi hk hw h0 h1 p1 p2 p3
  go_enter Try.func28, Try.ntmps28
  go_wp2_with fail
  go_loopg [6] M (fun g t6 wr => ∃ (i : Nat) (kv iv : Value), Hid (i + g = M) ∧ t6 = .int .i64 (i : Int) ∧ Hid (RcI w0.heap.size bb nt O.length c w #[.int .i64 7, .slice ia IL ic, .slice ka KL kc, .int .i64 o.fn, .int .i64 o.cap, .bool o.shut] o (recS nt O m o.keys o.its i).1 wr kv iv (recS nt O m o.keys o.its i).2.1 (recS nt O m o.keys o.its i).2.2))
  case atStart => exact ⟨0, _, _, by unfold Hid; omega, rfl, HR0⟩
  case round =>
    clear HR0
    obtain ⟨i, kv, iv, hi, rfl, c1, hR⟩ := hrel
    have hNq : w.heap.size + 1 + 1 < wr.heap.size := (Array.getElem?_eq_some_iff.1 hR.x).1
    have a1 := (blk_cells hR.p).1 1
    have a2 := (blk_cells hR.p).1 2
    simp at a1 a2
    have i0 : (0 : Int) ≤ (i : Int) := by omega
    by_cases hki : i < KL
    · have RSK : True := trivial
      obtain ⟨KY, hKY⟩ : ∃ x, o.keys[i]? = some x := ⟨_, List.getElem?_eq_getElem (by rw [unhide hKL]; exact hki)⟩
      obtain ⟨kb, ko, kcap, ek, -, -, hkb, hkc⟩ := unhide HKc i KY hKY
      injection ek with ek1 ek2 ek3
      subst ek1
      subst ek3
      clear ek2
      have hbw := unhide HBW _ hR.f
      have u0 : wr.cell? ⟨kb, ko + i, none⟩ = some (.int .i64 KY) := (hbw.cell (p := ⟨kb, ko + i, none⟩) hkb).trans (by have := hkc 0 _ rfl; rwa [Nat.mul_one, Nat.add_zero] at this)
      have hkbr := Nat.lt_of_lt_of_le hkb hbw.size
      have ki1 : (i : Int) < (KL : Int) := by omega
      have HT := hide (btext_any hR.b ((hR.c6 0 (by omega)).trans (unhide HH0)) (by have := pigeon nt _ (MOk.recs (unhide HMK) o.keys o.its i).d1 (MOk.recs (unhide HMK) o.keys o.its i).b1; omega) KY)
      obtain ⟨NK, hNK⟩ : ∃ z, Hid (numT nt (addT nt (recS nt O m o.keys o.its i).1.1 KY) KY = z) := ⟨_, hide rfl⟩
      unfold TxP at HT
      rw [unhide hNK] at HT
      have HKY := hide hKY
      clear hkc hKY hbw
      go_wp2_with fail
      refine (unhide HT).mono ?_
      rintro e w1 ⟨rfl, hbk⟩
      obtain ⟨kva, kvc, ekv, kv1, kv2⟩ := hR.k.shape
      unfold maxLen at kv2
      have hNx : w.heap.size + 1 + 1 < wr.heap.size := (Array.getElem?_eq_some_iff.1 hR.x).1
      have xw1 : w1.heap[w.heap.size + 1 + 1]? = some (.cells #[.int .i64 o.kind, iv, kv, .int .i64 o.fn, .int .i64 o.cap, .bool o.shut] 43) := by
        obtain ⟨c2, b1, b2, b3, b4⟩ := hbk
        exact (b2.block _ hNx (fun q => by
          rcases hR.nb _ q with r | r
          · have := hR.lt _ r; omega
          · omega)).trans hR.x
      have HRo : Hid (∀ O1, Ro (w1.alloc O1) 1 kv (recS nt O m o.keys o.its i).2.1.length (flt enL (recS nt O m o.keys o.its i).2.1)) := fun O1 => by
        obtain ⟨c2, b1, b2, b3, b4⟩ := hbk
        exact hR.k.fr (b2.alloc O1) (fun k hk e => (hR.kb k hk).2 e)
      have HBK := hide hbk
      have xc2 := (blk_cells xw1).1 2
      have xl1 := (blk_cells xw1).2.2
      simp at xc2
      have HNC := hide (new_cells w1 #[.int .i64 NK] 2)
      have lenk := (recS_lens nt O m o.keys o.its i).1
      obtain ⟨LK, hLK⟩ : ∃ z, Hid ((recS nt O m o.keys o.its i).2.1.length = z) := ⟨_, hide rfl⟩
      rw [unhide hLK] at lenk HRo ekv kv1
      subst ekv
      have HRR := hide hR
      have HKVL := hide hLK
      clear hbk HT u0 xw1 hR
      go_wp2_with (first | (at_builtin; refine appLn rfl _ _ rfl _ LK (recS nt O m o.keys o.its i).2.1 rfl (unhide HRo _) ⟨w1.heap.size, 0, none⟩ 1 NK rfl (unhide HNC) (by omega) ?_))
      intro kv' w2 hr hg hat
      obtain ⟨hRI, hx2⟩ := RcI.key (m' := (addT nt (recS nt O m o.keys o.its i).1.1 KY, (recS nt O m o.keys o.its i).1.2)) (Wa := w1.alloc (.cells #[.int .i64 NK] 2)) (unhide HRR) (unhide HBK) ((Below.refl _ w1).alloc (Nat.le_refl _) _) hr (by rw [unhide hLK]) hg (by simpa using hat)
      obtain ⟨kva', kvc', ekv', -, -⟩ := hr.shape
      subst ekv'
      have xc2' := (blk_cells hx2).1 2
      have xf2' := (blk_cells hx2).2.1 2
      have xl2' := (blk_cells hx2).2.2
      simp at xc2'
      have HRI := hide hRI
      clear hr hg hat hRI hx2 HRo HNC HBK HRR xc2

      by_cases hii : i < IL
      · obtain ⟨c1b, hR2⟩ := unhide HRI
        have HMA : Hid (MOk nt O.length (addT nt (recS nt O m o.keys o.its i).1.1 KY, (recS nt O m o.keys o.its i).1.2)) := (MOk.recs (unhide HMK) o.keys o.its i).t KY
        have pw : w2.heap[w.heap.size]? = some (.cells #[.int .i64 7, .slice ia IL ic, .slice (some ⟨kb, ko, none⟩) KL kc, .int .i64 o.fn, .int .i64 o.cap, .bool o.shut] 43) := (Below.heap_setCell _ _ _ _ (show w.heap.size ≠ w.heap.size + 1 + 1 by omega)).symm.trans hR2.p
        have n1 := (blk_cells pw).1 1
        simp at n1
        clear pw a1 a2
        obtain ⟨IT, hIT⟩ : ∃ x, o.its[i]? = some x := ⟨_, List.getElem?_eq_getElem (by rw [unhide hIL]; exact hii)⟩
        obtain ⟨tb, to, tcap, et, -, -, htb, htc⟩ := unhide HIc i IT hIT
        injection et with et1 et2 et3
        subst et1
        subst et3
        clear et2
        have hbw2 := unhide HBW _ hR2.f
        have htN : tb ≠ w.heap.size + 1 + 1 := by omega
        have t0 : w2.cell? ⟨tb, to + i * 2, none⟩ = some (.int .i64 IT.1) := (World.cell?_of_block (Below.heap_setCell _ _ _ _ htN)).symm.trans ((hbw2.cell (p := ⟨tb, to + i * 2, none⟩) htb).trans (htc 0 _ rfl))
        have t1 : w2.cell? ⟨tb, to + i * 2 + 1, none⟩ = some (.int .i64 IT.2) := (World.cell?_of_block (Below.heap_setCell _ _ _ _ htN)).symm.trans ((hbw2.cell (p := ⟨tb, to + i * 2 + 1, none⟩) htb).trans (htc 1 _ rfl))
        have htbr : tb < w2.heap.size := by omega
        have ii1 : (i : Int) < (IL : Int) := by omega
        have HV := hide (bvalue_any hR2.b ((hR2.c6 0 (by omega)).trans (unhide HH0)) ((hR2.c6 1 (by omega)).trans (unhide HH1)) ((unhide HO).below hbw2 (Nat.le_refl _)) (unhide HMA) hnt hno IT)
        obtain ⟨NV, hNV⟩ : ∃ z, Hid (numV nt O (metV nt O (addT nt (recS nt O m o.keys o.its i).1.1 KY, (recS nt O m o.keys o.its i).1.2) IT) IT = z) := ⟨_, hide rfl⟩
        unfold VlP at HV
        rw [unhide hNV] at HV
        have HIT := hide hIT
        clear htc hIT hbw2
        go_wp2_with fail
        refine (unhide HV).mono ?_
        rintro e w4 ⟨rfl, hbk⟩
        obtain ⟨iva, ivc, eiv, iv1, iv2⟩ := hR2.i.shape
        unfold maxLen at iv2
        have hNx2 : w.heap.size + 1 + 1 < (w2.setCell ⟨w.heap.size + 1 + 1, 2, none⟩ (.slice kva' (LK + 1) kvc')).heap.size := (Array.getElem?_eq_some_iff.1 hR2.x).1
        have xw4 : w4.heap[w.heap.size + 1 + 1]? = some (.cells #[.int .i64 o.kind, iv, (.slice kva' (LK + 1) kvc'), .int .i64 o.fn, .int .i64 o.cap, .bool o.shut] 43) := by
          obtain ⟨c2, b1, b2, b3, b4⟩ := hbk
          exact (b2.block _ hNx2 (fun q => by
            rcases hR2.nb _ q with r | r
            · have := hR2.lt _ r; omega
            · omega)).trans hR2.x
        have HRo2 : Hid (∀ O1 O2, Ro ((w4.alloc O1).alloc O2) 2 iv (recS nt O m o.keys o.its i).2.2.length (flt enI (recS nt O m o.keys o.its i).2.2)) := fun O1 O2 => by
          obtain ⟨c2, b1, b2, b3, b4⟩ := hbk
          exact hR2.i.fr ((b2.alloc O1).alloc O2) (fun k hk e => (hR2.ib k hk).2.1 e)
        have HBK2 := hide hbk
        have xc4 := (blk_cells xw4).1 1
        have xl4 := (blk_cells xw4).2.2
        simp at xc4
        have HNC2 := hide (fun O1 => new_cells (w4.alloc O1) #[.int .i64 NV.1, .int .i64 NV.2] 40)
        simp only [World.size_alloc] at HNC2
        have leni := (recS_lens nt O m o.keys o.its i).2
        obtain ⟨LI2, hLI⟩ : ∃ z, Hid ((recS nt O m o.keys o.its i).2.2.length = z) := ⟨_, hide rfl⟩
        rw [unhide hLI] at leni HRo2 eiv iv1
        subst eiv
        have HRR2 := hide hR2
        clear hbk HV t0 t1 xw4 hR2
        go_wp2_with (first | (at_builtin; refine appVn rfl _ _ rfl _ LI2 (recS nt O m o.keys o.its i).2.2 rfl (unhide HRo2 _ _) ⟨w4.heap.size + 1, 0, none⟩ 1 NV rfl (unhide HNC2 _) (by omega) ?_))
        intro iv' w5 hr hg hat
        obtain ⟨hRI, hx5⟩ := RcI.item (m' := metV nt O (addT nt (recS nt O m o.keys o.its i).1.1 KY, (recS nt O m o.keys o.its i).1.2) IT) (Wa := (w4.alloc (.cells #[.int .i64 NV.1, .int .i64 NV.2] 40)).alloc (.cells #[.int .i64 NV.1, .int .i64 NV.2] 40)) (unhide HRR2) (unhide HBK2) (bl_two w4 _ _) hr (by rw [unhide hLI]) hg (by simpa using hat)
        obtain ⟨iva', ivc', eiv', -, -⟩ := hr.shape
        subst eiv'
        have xc5 := (blk_cells hx5).1 1
        have xf5 := (blk_cells hx5).2.1 1
        have xl5 := (blk_cells hx5).2.2
        simp at xc5
        have HRI5 := hide hRI
        clear hr hg hat hRI hx5 HRo2 HNC2 HBK2 HRR2 xc4

        have HLn : Hid (RcI w0.heap.size bb nt O.length c w #[.int .i64 7, .slice (some ⟨tb, to, none⟩) IL ic, .slice (some ⟨kb, ko, none⟩) KL kc, .int .i64 o.fn, .int .i64 o.cap, .bool o.shut] o (recS nt O m o.keys o.its (i + 1)).1 (w5.setCell ⟨w.heap.size + 1 + 1, 1, none⟩ (.slice iva' (LI2 + 1) ivc')) (.slice kva' (LK + 1) kvc') (.slice iva' (LI2 + 1) ivc') (recS nt O m o.keys o.its (i + 1)).2.1 (recS nt O m o.keys o.its (i + 1)).2.2) := by
          rw [recS_both nt O m o.keys o.its i (unhide HKY) (unhide HIT), unhide hNK, unhide hNV]
          exact unhide HRI5
        clear HRI HRI5
        go_wp2_with fail
        go_roundg (gk - 1)
        case measure => have := unhide hi; omega
        case rel => exact ⟨i + 1, (.slice kva' (LK + 1) kvc'), (.slice iva' (LI2 + 1) ivc'), by have := unhide hi; unfold Hid; omega, by go_num, HLn⟩
      · obtain ⟨c1b, hR2⟩ := unhide HRI
        have pw : w2.heap[w.heap.size]? = some (.cells #[.int .i64 7, .slice ia IL ic, .slice (some ⟨kb, ko, none⟩) KL kc, .int .i64 o.fn, .int .i64 o.cap, .bool o.shut] 43) := (Below.heap_setCell _ _ _ _ (show w.heap.size ≠ w.heap.size + 1 + 1 by omega)).symm.trans hR2.p
        have n1 := (blk_cells pw).1 1
        simp at n1
        have hin : o.its[i]? = none := List.getElem?_eq_none (by rw [unhide hIL]; omega)
        have HLn : Hid (RcI w0.heap.size bb nt O.length c w #[.int .i64 7, .slice ia IL ic, .slice (some ⟨kb, ko, none⟩) KL kc, .int .i64 o.fn, .int .i64 o.cap, .bool o.shut] o (recS nt O m o.keys o.its (i + 1)).1 (w2.setCell ⟨w.heap.size + 1 + 1, 2, none⟩ (.slice kva' (LK + 1) kvc')) (.slice kva' (LK + 1) kvc') iv (recS nt O m o.keys o.its (i + 1)).2.1 (recS nt O m o.keys o.its (i + 1)).2.2) := by
          rw [recS_key nt O m o.keys o.its i (unhide HKY) hin, unhide hNK]
          exact unhide HRI
        have g1 : ¬ i < IL := hii
        clear HRI pw a1 a2 hR2 hin
        go_wp2_with fail
        go_roundg (gk - 1)
        case measure => have := unhide hi; omega
        case rel => exact ⟨i + 1, (.slice kva' (LK + 1) kvc'), iv, by have := unhide hi; unfold Hid; omega, by go_num, HLn⟩
    · by_cases hii : i < IL
      · have hR2 := hR
        clear hR
        have HMA : Hid (MOk nt O.length (recS nt O m o.keys o.its i).1) := MOk.recs (unhide HMK) o.keys o.its i
        have hkn : o.keys[i]? = none := List.getElem?_eq_none (by rw [unhide hKL]; omega)
        have HKN := hide hkn
        clear hkn
        obtain ⟨IT, hIT⟩ : ∃ x, o.its[i]? = some x := ⟨_, List.getElem?_eq_getElem (by rw [unhide hIL]; exact hii)⟩
        obtain ⟨tb, to, tcap, et, -, -, htb, htc⟩ := unhide HIc i IT hIT
        injection et with et1 et2 et3
        subst et1
        subst et3
        clear et2
        have hbw2 := unhide HBW _ hR2.f
        have htN : tb ≠ w.heap.size + 1 + 1 := by omega
        have t0 : wr.cell? ⟨tb, to + i * 2, none⟩ = some (.int .i64 IT.1) := (hbw2.cell (p := ⟨tb, to + i * 2, none⟩) htb).trans (htc 0 _ rfl)
        have t1 : wr.cell? ⟨tb, to + i * 2 + 1, none⟩ = some (.int .i64 IT.2) := (hbw2.cell (p := ⟨tb, to + i * 2 + 1, none⟩) htb).trans (htc 1 _ rfl)
        have htbr : tb < wr.heap.size := by omega
        have ii1 : (i : Int) < (IL : Int) := by omega
        have HV := hide (bvalue_any hR2.b ((hR2.c6 0 (by omega)).trans (unhide HH0)) ((hR2.c6 1 (by omega)).trans (unhide HH1)) ((unhide HO).below hbw2 (Nat.le_refl _)) (unhide HMA) hnt hno IT)
        obtain ⟨NV, hNV⟩ : ∃ z, Hid (numV nt O (metV nt O (recS nt O m o.keys o.its i).1 IT) IT = z) := ⟨_, hide rfl⟩
        unfold VlP at HV
        rw [unhide hNV] at HV
        have HIT := hide hIT
        clear htc hIT hbw2
        go_wp2_with fail
        refine (unhide HV).mono ?_
        rintro e w4 ⟨rfl, hbk⟩
        obtain ⟨iva, ivc, eiv, iv1, iv2⟩ := hR2.i.shape
        unfold maxLen at iv2
        have hNx2 : w.heap.size + 1 + 1 < wr.heap.size := (Array.getElem?_eq_some_iff.1 hR2.x).1
        have xw4 : w4.heap[w.heap.size + 1 + 1]? = some (.cells #[.int .i64 o.kind, iv, kv, .int .i64 o.fn, .int .i64 o.cap, .bool o.shut] 43) := by
          obtain ⟨c2, b1, b2, b3, b4⟩ := hbk
          exact (b2.block _ hNx2 (fun q => by
            rcases hR2.nb _ q with r | r
            · have := hR2.lt _ r; omega
            · omega)).trans hR2.x
        have HRo2 : Hid (∀ O1 O2, Ro ((w4.alloc O1).alloc O2) 2 iv (recS nt O m o.keys o.its i).2.2.length (flt enI (recS nt O m o.keys o.its i).2.2)) := fun O1 O2 => by
          obtain ⟨c2, b1, b2, b3, b4⟩ := hbk
          exact hR2.i.fr ((b2.alloc O1).alloc O2) (fun k hk e => (hR2.ib k hk).2.1 e)
        have HBK2 := hide hbk
        have xc4 := (blk_cells xw4).1 1
        have xl4 := (blk_cells xw4).2.2
        simp at xc4
        have HNC2 := hide (fun O1 => new_cells (w4.alloc O1) #[.int .i64 NV.1, .int .i64 NV.2] 40)
        simp only [World.size_alloc] at HNC2
        have leni := (recS_lens nt O m o.keys o.its i).2
        obtain ⟨LI2, hLI⟩ : ∃ z, Hid ((recS nt O m o.keys o.its i).2.2.length = z) := ⟨_, hide rfl⟩
        rw [unhide hLI] at leni HRo2 eiv iv1
        subst eiv
        have HRR2 := hide hR2
        clear hbk HV t0 t1 xw4 hR2
        go_wp2_with (first | (at_builtin; refine appVn rfl _ _ rfl _ LI2 (recS nt O m o.keys o.its i).2.2 rfl (unhide HRo2 _ _) ⟨w4.heap.size + 1, 0, none⟩ 1 NV rfl (unhide HNC2 _) (by omega) ?_))
        intro iv' w5 hr hg hat
        obtain ⟨hRI, hx5⟩ := RcI.item (m' := metV nt O (recS nt O m o.keys o.its i).1 IT) (Wa := (w4.alloc (.cells #[.int .i64 NV.1, .int .i64 NV.2] 40)).alloc (.cells #[.int .i64 NV.1, .int .i64 NV.2] 40)) (unhide HRR2) (unhide HBK2) (bl_two w4 _ _) hr (by rw [unhide hLI]) hg (by simpa using hat)
        obtain ⟨iva', ivc', eiv', -, -⟩ := hr.shape
        subst eiv'
        have xc5 := (blk_cells hx5).1 1
        have xf5 := (blk_cells hx5).2.1 1
        have xl5 := (blk_cells hx5).2.2
        simp at xc5
        have HRI5 := hide hRI
        clear hr hg hat hRI hx5 HRo2 HNC2 HBK2 HRR2 xc4

        have HLn : Hid (RcI w0.heap.size bb nt O.length c w #[.int .i64 7, .slice (some ⟨tb, to, none⟩) IL ic, .slice ka KL kc, .int .i64 o.fn, .int .i64 o.cap, .bool o.shut] o (recS nt O m o.keys o.its (i + 1)).1 (w5.setCell ⟨w.heap.size + 1 + 1, 1, none⟩ (.slice iva' (LI2 + 1) ivc')) kv (.slice iva' (LI2 + 1) ivc') (recS nt O m o.keys o.its (i + 1)).2.1 (recS nt O m o.keys o.its (i + 1)).2.2) := by
          rw [recS_item nt O m o.keys o.its i (unhide HKN) (unhide HIT), unhide hNV]
          exact unhide HRI5
        clear HRI5
        go_wp2_with fail
        go_roundg (gk - 1)
        case measure => have := unhide hi; omega
        case rel => exact ⟨i + 1, kv, (.slice iva' (LI2 + 1) ivc'), by have := unhide hi; unfold Hid; omega, by go_num, HLn⟩
      · have hiM : M = i := by have := unhide hi; omega
        subst hiM
        have HY : Hid (∀ W, Fr (fun k => k = w.heap.size + 1) wr W → ObP w0.heap.size bb nt O.length c w (metO nt O m o) (numO nt O m o) (.returned (.agg #[.int .i64 7, iv, kv, .int .i64 o.fn, .int .i64 o.cap, .bool o.shut])) W) := fun W hF => by
          have := hR.done hF
          have e7 : (Value.agg #[.int .i64 7, iv, kv, .int .i64 o.fn, .int .i64 o.cap, .bool o.shut]) = .agg #[.int .i64 o.kind, iv, kv, .int .i64 o.fn, .int .i64 o.cap, .bool o.shut] := by rw [unhide hKD]
          rw [unhide em, unhide en, e7]
          exact this
        obtain ⟨iva, ivc, eiv, -, -⟩ := hR.i.shape
        obtain ⟨kva, kvc, ekv, -, -⟩ := hR.k.shape
        obtain ⟨zb, ze, -⟩ := blk_cells hR.q
        have hxx := hR.x
        rw [unhide hKD] at hxx
        obtain ⟨zc, -, -⟩ := blk_cells hxx
        subst eiv
        subst ekv
        have b0 := zb 0
        have b1 := zb 1
        have b2 := zb 2
        have b3 := zb 3
        have b4 := zb 4
        have b5 := zb 5
        have e0 := ze 0
        have e1 := ze 1
        have e2 := ze 2
        have e3 := ze 3
        have e4 := ze 4
        have e5 := ze 5
        have x0 := zc 0
        have x1 := zc 1
        have x2 := zc 2
        have x3 := zc 3
        have x4 := zc 4
        have x5 := zc 5
        simp at b0 b1 b2 b3 b4 b5 x0 x1 x2 x3 x4 x5
        clear hR zb ze zc hxx
        go_wp2_with fail
        refine bodyPost_ret (v := .agg #[.int .i64 7, .slice iva (recS nt O m o.keys o.its M).2.2.length ivc, .slice kva (recS nt O m o.keys o.its M).2.1.length kvc, .int .i64 o.fn, .int .i64 o.cap, .bool o.shut]) ?_ rfl ?_
        · rw [results_cell_one rfl]
          go_simp
        · apply unhide HY
          repeat (first | refine Fr.setCell ?_ _ (by simp) _ | with_reducible exact Fr.refl _ _)
end Go.Proofs.Ytadgiccfjppnfaa
