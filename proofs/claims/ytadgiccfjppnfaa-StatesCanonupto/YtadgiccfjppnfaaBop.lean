/-
  The document's book: an object with new numbers.
-/
import Derived.Test.YtadgiccfjppnfaaBo2
namespace Go.Proofs.Ytadgiccfjppnfaa
open Go.RowKit
set_option linter.unusedVariables false
set_option linter.unusedSimpArgs false
/-- A record, field by field. -/
def recS (nt : Nat) (O : List Ob) (m : List Nat × List Nat) (keys : List Int) (its : List (Int × Int)) : Nat → (List Nat × List Nat) × List Int × List (Int × Int)
  | 0 => (m, [], [])
  | i + 1 =>
    let s := recS nt O m keys its i
    let a := match keys[i]? with
      | some k => ((addT nt s.1.1 k, s.1.2), s.2.1 ++ [numT nt (addT nt s.1.1 k) k])
      | none => (s.1, s.2.1)
    let b := match its[i]? with
      | some v => (metV nt O a.1 v, s.2.2 ++ [numV nt O (metV nt O a.1 v) v])
      | none => (a.1, s.2.2)
    (b.1, a.2, b.2)
theorem MOk.recs {nt : Nat} {O : List Ob} {m : List Nat × List Nat} (h : MOk nt O.length m) (keys : List Int) (its : List (Int × Int)) : ∀ i, MOk nt O.length (recS nt O m keys its i).1
  | 0 => h
  | i + 1 => by
    have ih := MOk.recs h keys its i
    simp only [recS]
    have ha : MOk nt O.length (match keys[i]? with | some k => ((addT nt (recS nt O m keys its i).1.1 k, (recS nt O m keys its i).1.2), (recS nt O m keys its i).2.1 ++ [numT nt (addT nt (recS nt O m keys its i).1.1 k) k]) | none => ((recS nt O m keys its i).1, (recS nt O m keys its i).2.1)).1 := by
      cases keys[i]? with
      | none => exact ih
      | some k => exact ih.t k
    revert ha
    generalize (match keys[i]? with | some k => ((addT nt (recS nt O m keys its i).1.1 k, (recS nt O m keys its i).1.2), (recS nt O m keys its i).2.1 ++ [numT nt (addT nt (recS nt O m keys its i).1.1 k) k]) | none => ((recS nt O m keys its i).1, (recS nt O m keys its i).2.1)) = a
    intro ha
    cases its[i]? with
    | none => exact ha
    | some v => exact ha.v v
theorem recS_lens (nt : Nat) (O : List Ob) (m : List Nat × List Nat) (keys : List Int) (its : List (Int × Int)) : ∀ i, (recS nt O m keys its i).2.1.length ≤ i ∧ (recS nt O m keys its i).2.2.length ≤ i
  | 0 => ⟨Nat.le_refl _, Nat.le_refl _⟩
  | i + 1 => by
    have ih := recS_lens nt O m keys its i
    simp only [recS]
    constructor
    · cases keys[i]? with
      | none => simp; omega
      | some k => simp; omega
    · cases its[i]? with
      | none => simp; omega
      | some v => simp; omega
/-- An object: what is met with it, and it with its new numbers. -/
def metO (nt : Nat) (O : List Ob) (m : List Nat × List Nat) (o : Ob) : List Nat × List Nat := if o.kind = 7 then (recS nt O m o.keys o.its (max o.keys.length o.its.length)).1 else metVs nt O m o.its
def numO (nt : Nat) (O : List Ob) (m : List Nat × List Nat) (o : Ob) : Ob :=
  if o.kind = 7 then { o with its := (recS nt O m o.keys o.its (max o.keys.length o.its.length)).2.2, keys := (recS nt O m o.keys o.its (max o.keys.length o.its.length)).2.1 } else { o with its := numVs nt O m o.its }
/-- What object answers. -/
def ObP (B bb nt no : Nat) (c : Nat → Value) (w : World) (m : List Nat × List Nat) (o : Ob) (e : Ending) (w' : World) : Prop :=
  ∃ x : Obv, e = .returned (.agg #[.int .i64 x.kind, x.iv, x.kv, .int .i64 x.fn, .int .i64 x.cap, .bool x.shut]) ∧ ObO w' o x ∧ ∃ c', BkM B bb nt no c' w' m.1 m.2 ∧ Fr (bkb c bb) w w' ∧ (∀ k, bkb c' bb k → bkb c bb k ∨ w.heap.size ≤ k) ∧ (∀ i, i ≤ 6 → c' i = c i) ∧ ∀ k, blO x k → w.heap.size ≤ k ∧ k < w'.heap.size ∧ ¬ bkb c' bb k
/-- Out of what stands while a record is made. -/
theorem RcM.done {B bb nt no : Nat} {c c1 : Nat → Value} {w W : World} {inp : Array Value} {o : Ob} {m : List Nat × List Nat} {wr : World} {kv iv : Value} {ks : List Int} {its : List (Int × Int)} (h : RcM B bb nt no c c1 w inp o m wr kv iv ks its) (hF : Fr (fun k => k = w.heap.size + 1) wr W) :
    ObP B bb nt no c w m { o with its := its, keys := ks } (.returned (.agg #[.int .i64 o.kind, iv, kv, .int .i64 o.fn, .int .i64 o.cap, .bool o.shut])) W := by
  have hN : w.heap.size + 1 + 1 < wr.heap.size := (Array.getElem?_eq_some_iff.1 h.x).1
  have hs := hF.size
  refine ⟨⟨o.kind, iv, kv, o.fn, o.cap, o.shut⟩, rfl, ⟨rfl, rfl, rfl, rfl, h.i.fr hF (fun k hk e => by have := (h.ib k hk).1; omega), h.k.fr hF (fun k hk e => by have := (h.kb k hk).1; omega)⟩, c1, h.b.fr hF (fun k hk e => ?_), ?_, fun k hk => ?_, h.c6, fun k hk => ?_⟩
  · rcases h.nb k hk with r | r
    · have := h.lt k r; omega
    · omega
  · have f4 : Fr (fun k => bkb c bb k ∨ w.heap.size ≤ k) w W := (h.f.mono (fun k _ e => .inl e)).trans (hF.mono (fun k _ e => .inr (by omega)))
    exact f4.mono (fun k hk e => by
      rcases e with e | e
      · exact e
      · omega)
  · rcases h.nb k hk with r | r
    · exact .inl r
    · exact .inr (by omega)
  · rcases hk with hk | hk
    · have := h.ib k hk
      have := h.i.lt k hk
      exact ⟨by omega, by omega, (h.ib k hk).2.1⟩
    · have := h.kb k hk
      have := h.k.lt k hk
      exact ⟨by omega, by omega, (h.kb k hk).2⟩
set_option maxRecDepth 100000 in
set_option maxHeartbeats 6400000 in
theorem bobject_plain {w0 : World} {bb nt no : Nat} {c : Nat → Value} {w : World} {m : List Nat × List Nat} {O : List Ob} (h : BkM w0.heap.size bb nt no c w m.1 m.2) {ta oa : Option Addr} {tc oc : Nat} (h0 : c 0 = .slice ta nt tc) (h1 : c 1 = .slice oa no oc) (hO : OsV w0 (.slice oa no oc) O) (hm : MOk nt no m) (hnt : nt ≤ 1048576) (hno : no ≤ 1048576) (hw : Below w0.heap.size w0 w)
    {v : Value} {o : Ob} (ho : ObA w0 v o) (hN : o.its.length ≤ 1048576) (hK : o.keys.length ≤ 1048576) (hkd : ¬ o.kind = 7) :
    Calls Try.prog 28 #[.pointer (some ⟨bb, 0, none⟩), v] w (ObP w0.heap.size bb nt no c w (metO nt O m o) (numO nt O m o)) := by
  obtain ⟨_, _, eO, _, _⟩ := hO.shape
  have hnoE : no = O.length := by cases eO; rfl
  subst hnoE
  clear eO
  obtain ⟨iv, kv, rfl, hi, hk⟩ := ho
  obtain ⟨ia, ic, rfl, i1, i2⟩ := hi.shape
  obtain ⟨ka, kc, rfl, k1, k2⟩ := hk.shape
  unfold maxLen at i2 k2
  have hlt : Hid (∀ k, bkb c bb k → k < w.heap.size) := fun k hk => (h.in hk).2
  have hw0 := hw.size
  obtain ⟨KD, hKD⟩ : ∃ n, Hid (o.kind = n) := ⟨_, hide rfl⟩
  obtain ⟨IL, hIL⟩ : ∃ n, Hid (o.its.length = n) := ⟨_, hide rfl⟩
  obtain ⟨KL, hKL⟩ : ∃ n, Hid (o.keys.length = n) := ⟨_, hide rfl⟩
  have em : Hid (metO nt O m o = metVs nt O m o.its) := by unfold metO; rw [if_neg hkd]; exact hide rfl
  have en : Hid (numO nt O m o = { o with its := numVs nt O m o.its }) := by unfold numO; rw [if_neg hkd]; exact hide rfl
  have H27 := hide (fun O1 O2 O3 => bvalues_any (h.below (bl_three w O1 O2 O3)) h0 h1 hO hm hnt hno (hw.trans ((bl_three w O1 O2 O3).mono hw0)) hi hN)
  have H38 := hide (fun w' (hb : Below w0.heap.size w0 w') => copyL_any (hk.below hb (Nat.le_refl _)) (by omega))
  have HW := hide hw
  have HBW : Hid (∀ W, Fr (bkb c bb) w W → Below w0.heap.size w0 W) := fun wr hf => hw.trans (hf.below hw0 (fun k hk e => by have := (h.in e).1; omega))
  rw [unhide hKD] at hkd
  rw [unhide hKD, unhide hIL, unhide hKL]
  rw [unhide hIL] at H27 i1 hN
  rw [unhide hKL] at H38 k1 hK
  have d7 : (KD != 7) = true := by simpa using hkd
  have d7' : (KD == 7) = false := by simpa using hkd
  have hNL : Hid ((numVs nt O m o.its).length = IL) := by rw [numVs_length]; exact hIL
  clear h hO hm hi hk hw h0 h1 hkd
  go_enter Try.func28, Try.ntmps28
  go_wp2_with fail
  refine (unhide H27 _ _ _).mono ?_
  rintro e w1 ⟨v1, rfl, c1, g1, g2, g3, g4, g5, g6⟩
  rw [unhide hNL] at g5
  obtain ⟨va, vc, rfl, -, -⟩ := g5.shape
  obtain ⟨p1, p2, p3⟩ := blk3 w (.cells #[.int .i64 KD, .slice ia IL ic, .slice ka KL kc, .int .i64 o.fn, .int .i64 o.cap, .bool o.shut] 43) (.cells #[.int .i64 0, .slice none 0 0, .slice none 0 0, .int .i64 0, .int .i64 0, .bool false] 43) (.cells #[.int .i64 KD, .slice ia IL ic, .slice ka KL kc, .int .i64 o.fn, .int .i64 o.cap, .bool o.shut] 43)
  have nbx : ∀ k, w.heap.size ≤ k → ¬ bkb c bb k := fun k hk q => by have := unhide hlt k q; omega
  have r1 := (g2.block w.heap.size (by simp only [World.size_alloc]; omega) (nbx _ (by omega))).trans p1
  have r2 := (g2.block (w.heap.size + 1) (by simp only [World.size_alloc]; omega) (nbx _ (by omega))).trans p2
  have r3 := (g2.block (w.heap.size + 1 + 1) (by simp only [World.size_alloc]; omega) (nbx _ (by omega))).trans p3
  have s1 := g2.size
  simp only [World.size_alloc] at s1 g3 g6
  have hf1 : Fr (bkb c bb) w w1 := (Fr.of_below (S := bkb c bb) (bl_three w (.cells #[.int .i64 KD, .slice ia IL ic, .slice ka KL kc, .int .i64 o.fn, .int .i64 o.cap, .bool o.shut] 43) (.cells #[.int .i64 0, .slice none 0 0, .slice none 0 0, .int .i64 0, .int .i64 0, .bool false] 43) (.cells #[.int .i64 KD, .slice ia IL ic, .slice ka KL kc, .int .i64 o.fn, .int .i64 o.cap, .bool o.shut] 43))).trans g2
  have HF1 := hide hf1
  obtain ⟨za, -, -⟩ := blk_cells r1
  have a2 := za 2
  obtain ⟨zc, zf, -⟩ := blk_cells r3
  have c1' := zc 1
  have f1' := zf 1
  simp at a2 c1'
  have K2 : Hid (Calls Try.prog 38 #[.slice ka KL kc] (w1.setCell ⟨w.heap.size + 1 + 1, 1, none⟩ (.slice va IL vc)) fun e w' => ∃ v', e = .returned v' ∧ Gx (w1.setCell ⟨w.heap.size + 1 + 1, 1, none⟩ (.slice va IL vc)) 1 enL o.keys v' w') := unhide H38 _ ((unhide HBW _ hf1).trans (Below.setCell (Below.refl _ _) (show w0.heap.size ≤ w.heap.size + 1 + 1 by omega) _))
  have HG1 := hide g1
  have HG3 := hide g3
  have HG4 := hide g4
  have HG5 := hide g5
  have HG6 := hide g6
  have R2 := hide r2
  have R3 := hide r3
  have hs1 : w.heap.size + 1 + 1 < w1.heap.size := by omega
  clear g1 g2 g3 g4 g5 g6 p1 p2 p3 r1 r2 r3 za zc zf H27 H38 hf1 nbx
  go_wp2_with fail
  refine (unhide K2).mono ?_
  rintro e w2 ⟨v2, rfl, hG⟩
  obtain ⟨g1, g2, g3⟩ := hG
  rw [unhide hKL] at g1
  obtain ⟨ya, yc, rfl, -, -⟩ := g1.shape
  rw [size_set] at g3
  have p3 := (g2.block (w.heap.size + 1 + 1) (by rw [size_set]; omega)).trans (setCell_block (unhide R3) (.slice va IL vc))
  have p2 := (g2.block (w.heap.size + 1) (by rw [size_set]; omega)).trans ((Below.heap_setCell _ _ _ _ (by simp)).trans (unhide R2))
  have fx : Fr (fun k => k = w.heap.size + 1 + 1) w1 w2 := ((Fr.refl (fun k => k = w.heap.size + 1 + 1) w1).setCell ⟨w.heap.size + 1 + 1, 1, none⟩ (.inr rfl) (.slice va IL vc)).trans (Fr.of_below g2)
  have hs2 := fx.size
  have HY : Hid (∀ W, Fr (fun k => k = w.heap.size + 1 ∨ k = w.heap.size + 1 + 1) w2 W → ObP w0.heap.size bb nt O.length c w (metO nt O m o) (numO nt O m o) (.returned (.agg #[.int .i64 KD, .slice va IL vc, .slice ya KL yc, .int .i64 o.fn, .int .i64 o.cap, .bool o.shut])) W) := fun W hF => by
    have hsW := hF.size
    have hc3 : ∀ k, bkb c1 bb k → k < w1.heap.size ∧ (k < w.heap.size ∨ w.heap.size + 1 + 1 + 1 ≤ k) := fun k hk => by
      refine ⟨((unhide HG1).in hk).2, ?_⟩
      rcases unhide HG3 k hk with r | r
      · exact .inl (unhide hlt k r)
      · exact .inr r
    have ri : Ro W 2 (.slice va IL vc) IL (flt enI (numVs nt O m o.its)) := ((unhide HG5).fr fx (fun k hk e => by have := (unhide HG6 k hk).1; omega)).fr hF (fun k hk e => by have := (unhide HG6 k hk).1; omega)
    have rk : Ro W 1 (.slice ya KL yc) KL (flt enL o.keys) := g1.fr hF (fun k hk e => by have := g3 k hk; omega)
    rw [unhide em, unhide en]
    refine ⟨⟨KD, .slice va IL vc, .slice ya KL yc, o.fn, o.cap, o.shut⟩, rfl, ⟨(unhide hKD).symm, rfl, rfl, rfl, ?_, ?_⟩, c1, ((unhide HG1).fr fx (fun k hk e => by have := (hc3 k hk).2; omega)).fr hF (fun k hk e => by have := (hc3 k hk).2; omega), ?_, fun k hk => ?_, unhide HG4, fun k hk => ?_⟩
    · show Ro W 2 _ (numVs nt O m o.its).length _
      rw [unhide hNL]; exact ri
    · show Ro W 1 _ o.keys.length _
      rw [unhide hKL]; exact rk
    · have f4 : Fr (fun k => bkb c bb k ∨ w.heap.size ≤ k) w W := (((unhide HF1).mono (fun k _ e => .inl e)).trans (fx.mono (fun k _ e => .inr (by omega)))).trans (hF.mono (fun k _ e => .inr (by omega)))
      exact f4.mono (fun k hk e => by
        rcases e with e | e
        · exact e
        · omega)
    · rcases unhide HG3 k hk with r | r
      · exact .inl r
      · exact .inr (by omega)
    · rcases hk with hk | hk
      · have h6 := unhide HG6 k hk
        exact ⟨by omega, ri.lt k hk, h6.2⟩
      · have h6 := g3 k hk
        exact ⟨by omega, rk.lt k hk, fun q => by have := (hc3 k q).1; omega⟩
  obtain ⟨zb, ze, -⟩ := blk_cells p2
  obtain ⟨zc, zf, -⟩ := blk_cells p3
  have b0 := zb 0
  have b1 := zb 1
  have b2 := zb 2
  have b3 := zb 3
  have b4 := zb 4
  have b5 := zb 5
  have e0 := ze 0
  have e1 := ze 1
  have e2 := ze 2
  have e3 := ze 3
  have e4 := ze 4
  have e5 := ze 5
  have x0 := zc 0
  have x1 := zc 1
  have x2 := zc 2
  have x3 := zc 3
  have x4 := zc 4
  have x5 := zc 5
  have y2 := zf 2
  simp at b0 b1 b2 b3 b4 b5 x0 x1 x2 x3 x4 x5
  clear g1 g2 g3 p2 p3 zb ze zc zf fx a2 c1' f1' K2
  go_wp2_with fail
  refine bodyPost_ret (v := .agg #[.int .i64 KD, .slice va IL vc, .slice ya KL yc, .int .i64 o.fn, .int .i64 o.cap, .bool o.shut]) ?_ rfl ?_
  · rw [results_cell_one rfl]
    go_simp
  · apply unhide HY
    repeat (first | refine Fr.setCell ?_ _ (by simp) _ | with_reducible exact Fr.refl _ _)
end Go.Proofs.Ytadgiccfjppnfaa
