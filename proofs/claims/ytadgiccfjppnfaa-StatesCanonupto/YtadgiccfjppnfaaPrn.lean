/-
  Objects with new numbers; Canon.
-/
import Derived.Test.YtadgiccfjppnfaaPfk
namespace Go.Proofs.Ytadgiccfjppnfaa
open Go.RowKit
set_option linter.unusedVariables false
set_option linter.unusedSimpArgs false
set_option maxRecDepth 100000 in
set_option maxHeartbeats 6400000 in
theorem renum_any {B : Nat} {T : List ByteArray} {O : List Ob} {X : List Obv} {ob mb : Nat} {tv ov : Value} {w : World} {m : List Nat × List Nat} (h : OrM B T O X ob mb tv ov w m) (hm : MOk T.length O.length m) {w0 : World} (hb0 : Below w0.heap.size w0 w) (hXl : X.length = O.length) (hXe : ∀ (i : Nat) (o : Ob) (x : Obv), O[i]? = some o → X[i]? = some x → ObV w0 o x) (hno : O.length ≤ 1048576) (hs : ∀ o ∈ O, o.its.length ≤ 1048576 ∧ o.keys.length ≤ 1048576) (hok : ∀ o ∈ O, (∀ v ∈ o.its, OkV v) ∧ ∀ k ∈ o.keys, OkV (4, k))
    (hh : ∀ j ∈ m.2, (∀ v ∈ (O.getD j nob).its, Hv T.length O m v) ∧ ((O.getD j nob).kind = 7 → ∀ k ∈ (O.getD j nob).keys, 0 ≤ k → k < (T.length : Int) → k.toNat ∈ m.1)) :
    Calls Try.prog 32 #[.pointer (some ⟨ob, 0, none⟩)] w fun e w' => ∃ v' xs, e = .returned v' ∧ OO (fun k => w.heap.size ≤ k) w' v' (m.2.map (fun j => renO T.length O m (O.getD j nob))) xs ∧ Below w.heap.size w w' := by
  have hle := pigeon _ _ hm.d2 hm.b2
  -- what is known of each object that was met
  have hat : ∀ (i j : Nat), m.2[i]? = some j → ∃ o, O[j]? = some o ∧ O.getD j nob = o ∧ ObV w0 o (X.getD j nobv) ∧ o ∈ O := fun i j hj => by
    have hjl : j < O.length := hm.b2 j (List.mem_of_getElem? hj)
    have h1 : O[j]? = some O[j] := List.getElem?_eq_getElem hjl
    have h2 : X[j]? = some (X.getD j nobv) := by rw [List.getD_eq_getElem?_getD, List.getElem?_eq_getElem (by omega)]; rfl
    exact ⟨O[j], h1, by rw [List.getD_eq_getElem?_getD, h1]; rfl, hXe j _ _ h1 h2, List.getElem_mem _⟩
  have HV : Hid (∀ (W : World) (i j : Nat) (o : Ob) (lv : Value), Below w.heap.size w W → m.2[i]? = some j → O.getD j nob = o → o ∈ O → Rx w0 2 lv o.its.length (flt enI o.its) → Calls Try.prog 66 #[.pointer (some ⟨ob, 0, none⟩), lv] W fun e w' => ∃ v', e = .returned v' ∧ Gx W 2 enI (o.its.map (numV T.length O m)) v' w') := fun W i j o lv hb hj ho hm2 hx => values_any (h.fr (Fr.of_below (S := fun _ => False) hb) (fun _ _ e => e)) hm ((hx.below hb0 (Nat.le_refl _)).below hb (Nat.le_refl _)) (hs o hm2).1 (hok o hm2).1 (fun p hp => (hh j (List.mem_of_getElem? hj)).1 p (by rw [ho]; exact hp))
  have HK : Hid (∀ (W : World) (i j : Nat) (o : Ob) (kv : Value) (ia : Option Addr) (il ic : Nat), Below w.heap.size w W → m.2[i]? = some j → O.getD j nob = o → o ∈ O → Rx w0 1 kv o.keys.length (flt enL o.keys) → Calls Try.prog 67 #[.pointer (some ⟨ob, 0, none⟩), .agg #[.int .i64 o.kind, .slice ia il ic, kv, .int .i64 o.fn, .int .i64 o.cap, .bool o.shut]] W fun e w' => ∃ v', e = .returned v' ∧ Gx W 1 enL (if o.kind = 7 then o.keys.map (numT T.length m.1) else o.keys) v' w') := fun W i j o kv ia il ic hb hj ho hm2 hx => keys_any (h.fr (Fr.of_below (S := fun _ => False) hb) (fun _ _ e => e)) hm ((hx.below hb0 (Nat.le_refl _)).below hb (Nat.le_refl _)) (hs o hm2).2 (hok o hm2).2 (fun h7 k hk => ⟨fun _ q1 q2 => (hh j (List.mem_of_getElem? hj)).2 (by rw [ho]; exact h7) k (by rw [ho]; exact hk) q1 q2, fun q => absurd rfl q⟩)
  obtain ⟨L, hL⟩ : ∃ n, Hid (m.2.length = n) := ⟨_, hide rfl⟩
  have hLb : L ≤ 1048576 := by rw [← unhide hL]; omega
  have hXL : Hid ((m.2.map fun j => X.getD j nobv).length = L) := by rw [List.length_map]; exact hL
  have hNM : Hid ((m.2.map (fun j => renO T.length O m (O.getD j nob))).length = L) := by rw [List.length_map]; exact hL
  have hsh : ∀ x ∈ (m.2.map fun j => X.getD j nobv), (∃ a n c, x.iv = .slice a n c) ∧ ∃ a n c, x.kv = .slice a n c := fun x hx => by
    obtain ⟨j, hj, rfl⟩ := List.mem_map.1 hx
    obtain ⟨i, hi, rfl⟩ := List.getElem_of_mem hj
    obtain ⟨o, _, _, hov, _⟩ := hat i _ (List.getElem?_eq_getElem hi)
    obtain ⟨ia, ic, ka, kc, e, _⟩ := hov.parts
    rw [e]
    exact ⟨⟨_, _, _, rfl⟩, ⟨_, _, _, rfl⟩⟩
  have HCL := hide (cloneO_any (w := w) (lv := ov) (l := m.2.map fun j => X.getD j nobv) (by rw [List.length_map]; exact Rx.of_ro h.ro) (by rw [unhide hXL]; exact hLb) (oneO hsh))
  have c1 := (blk_cells h.box).1 1
  have lo := (blk_cells h.box).2.2
  simp at c1
  obtain ⟨oa, oc, eov, o1, o2⟩ := h.ro.shape
  rw [unhide hL] at eov o1
  subst eov
  have HAT := hide hat
  unfold maxLen at o2
  clear h hm hat hXe hs hok hh hsh hle hb0 hXl
  go_enter Try.func32, Try.ntmps32
  go_wp2_with fail
  refine (unhide HCL).mono ?_
  rintro e w1 ⟨v1, rfl, hG⟩
  have HK0 : Hid (RI enO 6 ObO blO w.heap.size (m.2.map (fun j => renO T.length O m (O.getD j nob))) (m.2.map fun j => X.getD j nobv) 0 w1 v1 ∧ Below w.heap.size w w1) := ⟨RI.start (by rw [unhide hNM, unhide hXL]) hG (Nat.le_refl _), hG.2.1⟩
  obtain ⟨va, vc, ev, hv1, hv2⟩ := hG.1.shape
  rw [unhide hXL] at ev
  subst ev
  clear hG HCL c1
  go_wp2_with fail
  go_loopg [12] L (fun g t12 wr => ∃ (i : Nat) (ys : List Obv), Hid (i + g = L) ∧ t12 = .int .i64 (i : Int) ∧ Hid (∀ j, i ≤ j → ys[j]? = (m.2.map fun j => X.getD j nobv)[j]?) ∧ Hid (RI enO 6 ObO blO w.heap.size (m.2.map (fun j => renO T.length O m (O.getD j nob))) ys i wr (.slice va L vc) ∧ Below w.heap.size w wr))
  case atStart => exact ⟨0, _, by unfold Hid; omega, rfl, by unfold Hid; intros; rfl, HK0⟩
  case round =>
    clear HK0
    obtain ⟨i, ys, hi, rfl, hys, hK⟩ := hrel
    by_cases hlt : i < L
    · obtain ⟨j, hj⟩ : ∃ p, m.2[i]? = some p := ⟨_, List.getElem?_eq_getElem (by rw [unhide hL]; exact hlt)⟩
      obtain ⟨o, hoj, hog, hov, hom⟩ := unhide HAT i j hj
      obtain ⟨ia, ic, ka, kc, ex, i1, i2, k1, k2, r1, r2⟩ := hov.parts
      have hy : ys[i]? = some (⟨o.kind, .slice ia o.its.length ic, .slice ka o.keys.length kc, o.fn, o.cap, o.shut⟩ : Obv) := by
        rw [unhide hys i (Nat.le_refl _), List.getElem?_map, hj, ← ex]
        rfl
      obtain ⟨g, off, cap, eg, -, -, hgl, hgc⟩ := Rx.elem zO (l := ys) (by rw [(unhide hK).1.len]; exact Rx.of_ro (unhide hK).1.row) hy
      rw [(unhide hK).1.len, unhide hNM] at eg
      cases eg
      have z0 := hgc 0 _ rfl
      have z1 := hgc 1 _ rfl
      have z2 := hgc 2 _ rfl
      have z3 := hgc 3 _ rfl
      have z4 := hgc 4 _ rfl
      have z5 := hgc 5 _ rfl
      rw [Nat.add_zero] at z0
      have i0' : (0 : Int) ≤ (i : Int) := by omega
      have i1' : (i : Int) < (L : Int) := by omega
      have HC := hide (unhide HV wr i j o _ (unhide hK).2 hj hog hom r1)
      have HKC : Hid (∀ (W : World) (ia : Option Addr) (il ic : Nat), Below w.heap.size w W → Calls Try.prog 67 #[.pointer (some ⟨ob, 0, none⟩), .agg #[.int .i64 o.kind, .slice ia il ic, .slice ka o.keys.length kc, .int .i64 o.fn, .int .i64 o.cap, .bool o.shut]] W fun e w' => ∃ v', e = .returned v' ∧ Gx W 1 enL (if o.kind = 7 then o.keys.map (numT T.length m.1) else o.keys) v' w') := fun W ia il ic hW => unhide HK W i j o _ ia il ic hW hj hog hom r2
      obtain ⟨IL, hIL⟩ : ∃ n, Hid (o.its.length = n) := ⟨_, hide rfl⟩
      obtain ⟨KL, hKL⟩ : ∃ n, Hid (o.keys.length = n) := ⟨_, hide rfl⟩
      obtain ⟨kd, hkd⟩ : ∃ n, Hid (o.kind = n) := ⟨_, hide rfl⟩
      obtain ⟨fn, hfn⟩ : ∃ n, Hid (o.fn = n) := ⟨_, hide rfl⟩
      obtain ⟨cp, hcp⟩ : ∃ n, Hid (o.cap = n) := ⟨_, hide rfl⟩
      obtain ⟨sh, hsh⟩ : ∃ n, Hid (o.shut = n) := ⟨_, hide rfl⟩
      have HY := hide hy
      rw [unhide hkd, unhide hfn, unhide hcp, unhide hsh] at z0 z3 z4 z5 HKC HY
      rw [unhide hIL] at z1 HC HY
      rw [unhide hKL] at z2 HKC HY
      obtain ⟨KK, hKK⟩ : ∃ l, Hid ((if o.kind = 7 then o.keys.map (numT T.length m.1) else o.keys) = l) := ⟨_, hide rfl⟩
      rw [unhide hkd] at hKK
      rw [unhide hKK] at HKC
      have HU : Hid ((m.2.map (fun j => renO T.length O m (O.getD j nob)))[i]? = some ⟨kd, o.its.map (numV T.length O m), KK, fn, cp, sh⟩) := by
        rw [List.getElem?_map, hj, ← unhide hKK, ← unhide hkd, ← unhide hfn, ← unhide hcp, ← unhide hsh]
        show some (renO T.length O m (O.getD j nob)) = _
        rw [hog]
        rfl
      have hiy : i < ys.length := (List.getElem?_eq_some_iff.1 hy).1
      have HGL := hide hgl
      clear hj hoj hog hov hom ex r1 r2 hy hgc i1 i2 k1 k2
      go_wp2_with fail
      refine (unhide HC).mono ?_
      rintro e w2 ⟨v2, rfl, hG2⟩
      have hR2 := (unhide hK).1.below staysO hG2.2.1
      obtain ⟨c1, c2⟩ := hR2.put staysO zO (g := g) (off := off) (n := L) (cap := vc) rfl (c := 1) (x' := ⟨kd, v2, .slice ka KL kc, fn, cp, sh⟩) (y := v2) (unhide HY) (by decide) rfl
      have y1 := (hG2.2.1.cell (p := ⟨g, off + i * 6 + 1, none⟩) hgl).trans z1
      have fz1 : w2.frozen? ⟨g, off + i * 6 + 1, none⟩ = false := hR2.row.free (by rw [unhide hNM]) _
      have hgs := hG2.2.1.size
      have hBW : Below wr.heap.size wr w2 := hG2.2.1
      obtain ⟨w3, hw3⟩ : ∃ W, Hid (w2.setCell ⟨g, off + i * 6 + 1, none⟩ v2 = W) := ⟨_, hide rfl⟩
      rw [unhide hw3] at c1 c2
      -- what has turned since the round began: the row's block alone
      have hF3 : Fr (fun b => b = g) wr w3 := (Fr.of_below (S := fun b => b = g) hBW).trans c2
      have hv2R : Ro w3 2 v2 (o.its.map (numV T.length O m)).length (flt enI (o.its.map (numV T.length O m))) := hG2.1.fr c2 (fun k hk e => by have := hG2.2.2 k hk; omega)
      have hv2b : ∀ k, v2.ownBlock = some k → wr.heap.size ≤ k ∧ k < w3.heap.size := fun k hk => ⟨hG2.2.2 k hk, Nat.lt_of_lt_of_le (hG2.1.lt k hk) c2.size⟩
      have hB3 : Below w.heap.size w w3 := (unhide hK).2.trans (hF3.below (unhide hK).2.size (fun k hk e => by have := (unhide hK).1.rb g rfl; omega))
      have hy3 : (ys.set i ⟨kd, v2, .slice ka KL kc, fn, cp, sh⟩)[i]? = some (⟨kd, v2, .slice ka KL kc, fn, cp, sh⟩ : Obv) := by rw [List.getElem?_set_self hiy]
      obtain ⟨g', off', cap', eg', -, -, -, hgc3⟩ := Rx.elem zO (l := ys.set i ⟨kd, v2, .slice ka KL kc, fn, cp, sh⟩) (by rw [c1.len]; exact Rx.of_ro c1.row) hy3
      rw [c1.len, unhide hNM] at eg'
      cases eg'
      have x0 := hgc3 0 _ rfl
      have x1 := hgc3 1 _ rfl
      have x2 := hgc3 2 _ rfl
      have x3 := hgc3 3 _ rfl
      have x4 := hgc3 4 _ rfl
      have x5 := hgc3 5 _ rfl
      rw [Nat.add_zero] at x0
      simp only at x0 x1 x2 x3 x4 x5
      have lg3 : g < w3.heap.size := Nat.lt_of_lt_of_le hgl hF3.size
      obtain ⟨va2, vc2, ev2, -, -⟩ := hG2.1.shape
      rw [List.length_map, unhide hIL] at ev2
      have HC1 := hide c1
      have HF3 := hide hF3
      have HV2R := hide hv2R
      have HV2B := hide hv2b
      have HB3 := hide hB3
      have HY3 := hide hy3
      have hK67 : Hid (Calls Try.prog 67 #[.pointer (some ⟨ob, 0, none⟩), .agg #[.int .i64 kd, .slice va2 IL vc2, .slice ka KL kc, .int .i64 fn, .int .i64 cp, .bool sh]] w3 fun e w' => ∃ v', e = .returned v' ∧ Gx w3 1 enL KK v' w') := unhide HKC w3 va2 IL vc2 hB3
      subst ev2
      clear hG2 hR2 c1 c2 hBW hF3 hv2R hv2b hB3 hy3 hgc3 HC z0 z1 z2 z3 z4 z5
      rw [← unhide hw3] at x0 x1 x2 x3 x4 x5
      go_wp2_with fail
      rw [unhide hw3] at x0 x1 x2 x3 x4 x5 ⊢
      clear hw3
      refine (unhide hK67).mono ?_
      rintro e w4 ⟨v4, rfl, hG4⟩
      have hR4 := (unhide HC1).below staysO hG4.2.1
      obtain ⟨d1, d2⟩ := hR4.put staysO zO (g := g) (off := off) (n := L) (cap := vc) rfl (c := 2) (x' := ⟨kd, .slice va2 IL vc2, v4, fn, cp, sh⟩) (y := v4) (unhide HY3) (by decide) rfl
      rw [List.set_set] at d1
      have y2 := (hG4.2.1.cell (p := ⟨g, off + i * 6 + 2, none⟩) lg3).trans x2
      have fz2 : w4.frozen? ⟨g, off + i * 6 + 2, none⟩ = false := hR4.row.free (by rw [unhide hNM]) _
      have hgs4 := hG4.2.1.size
      have hs3 := (unhide HF3).size
      have hF4 : Fr (fun b => b = g) wr (w4.setCell ⟨g, off + i * 6 + 2, none⟩ v4) := ((unhide HF3).trans (Fr.of_below hG4.2.1)).trans d2
      have hv4b : ∀ k, v4.ownBlock = some k → w3.heap.size ≤ k ∧ k < (w4.setCell ⟨g, off + i * 6 + 2, none⟩ v4).heap.size := fun k hk => ⟨hG4.2.2 k hk, Nat.lt_of_lt_of_le (hG4.1.lt k hk) d2.size⟩
      have hdone := d1.done (Q := wr.heap.size) (u := ⟨kd, o.its.map (numV T.length O m), KK, fn, cp, sh⟩) (x := ⟨kd, .slice va2 IL vc2, v4, fn, cp, sh⟩) (unhide HU) (by rw [List.getElem?_set_self hiy]) ⟨rfl, rfl, rfl, rfl, (((unhide HV2R).fr (Fr.of_below (S := fun _ => False) hG4.2.1) (fun _ _ e => e)).fr d2 (fun k hk e => by have := (unhide HV2B k hk).1; omega)), hG4.1.fr d2 (fun k hk e => by have := hG4.2.2 k hk; omega)⟩ (fun k hk => by
          rcases hk with hk | hk
          · have := unhide HV2B k hk
            exact ⟨this.1, Nat.lt_of_lt_of_le this.2 (Nat.le_trans hgs4 d2.size)⟩
          · have := hv4b k hk
            exact ⟨by omega, this.2⟩) (unhide hK).2.size (fun k hk => (unhide hK).1.row.lt k hk) (fun q y k hq hy hk => by
          rw [List.getElem?_set_ne (by omega)] at hy
          exact ((unhide hK).1.eb q y k hq hy hk).2.1)
      have HK2 : Hid (RI enO 6 ObO blO w.heap.size (m.2.map (fun j => renO T.length O m (O.getD j nob))) (ys.set i ⟨kd, .slice va2 IL vc2, v4, fn, cp, sh⟩) (i + 1) (w4.setCell ⟨g, off + i * 6 + 2, none⟩ v4) (.slice (some ⟨g, off, none⟩) L vc) ∧ Below w.heap.size w (w4.setCell ⟨g, off + i * 6 + 2, none⟩ v4)) := ⟨hdone, (unhide hK).2.trans (hF4.below (unhide hK).2.size (fun k hk e => by have := (unhide hK).1.rb g rfl; omega))⟩
      have hys2 : Hid (∀ q, i + 1 ≤ q → (ys.set i ⟨kd, .slice va2 IL vc2, v4, fn, cp, sh⟩)[q]? = (m.2.map fun j => X.getD j nobv)[q]?) := fun q hq => by
        rw [List.getElem?_set_ne (by omega)]
        exact unhide hys q (by omega)
      obtain ⟨va4, vc4, ev4, -, -⟩ := hG4.1.shape
      obtain ⟨KN, hKN⟩ : ∃ n, Hid (KK.length = n) := ⟨_, hide rfl⟩
      rw [unhide hKN] at ev4
      subst ev4
      clear hG4 hR4 d1 d2 hdone hF4 hv4b hK hys x0 x1 x2 x3 x4 x5
      go_wp2_with fail
      go_roundg (gk - 1)
      case measure => have := unhide hi; omega
      case rel => exact ⟨i + 1, _, by have := unhide hi; unfold Hid; omega, by go_num, hys2, HK2⟩
    · have hiN : L = i := by have := unhide hi; omega
      subst hiN
      have HG : Hid (OO (fun k => w.heap.size ≤ k) wr (.slice va L vc) (m.2.map (fun j => renO T.length O m (O.getD j nob))) ys) := (unhide hK).1.ow (by rw [unhide hNM]; exact Nat.le_refl _)
      have HBB := hide (unhide hK).2
      clear hK
      go_wp2_with fail
      go_ret
      exact ⟨_, _, rfl, unhide HG, unhide HBB⟩
end Go.Proofs.Ytadgiccfjppnfaa
