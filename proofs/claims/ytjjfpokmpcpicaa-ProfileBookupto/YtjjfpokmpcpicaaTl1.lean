/-
  A note is made, and what was handed in is written over.
-/
import Derived.Test.YtjjfpokmpcpicaaVals
namespace Go.Proofs.Ytjjfpokmpcpicaa
open Go.RowKit
set_option linter.unusedVariables false
set_option linter.unusedSimpArgs false
theorem Fr.step {S T : Nat → Prop} {a b c : World} (h : Fr S a b) (k : Fr T b c) (hs : ∀ i, i < a.heap.size → T i → S i) : Fr S a c :=
  ⟨k.os.trans h.os, k.tape.trans h.tape, k.output.trans h.output, Nat.le_trans h.size k.size,
    fun i hi hn => (k.block i (Nat.lt_of_lt_of_le hi h.size) (fun e => hn (hs i hi e))).trans (h.block i hi hn)⟩
theorem take_flt2 (l m : List (Int × Int)) : (flt enI (l ++ m)).take (l.length * 2) = flt enI l := by
  have : (flt enI l).length = l.length * 2 := flt_length zI l
  unfold flt at *
  rw [List.flatMap_append, ← this, List.take_left']
  rfl
set_option maxRecDepth 100000 in
set_option maxHeartbeats 6400000 in
theorem tellN_any {Z : Nat → Prop} {w : World} {p : Nat} {f : List (List Sp)} (h : BkM Z w p f) (hO : OkF f) (on f1 f2 : Int) (hs : OkV (f1, f2)) {lv : Value} {l : List (Int × Int)} (hl : Rx w 2 lv l.length (flt enI l)) (hll : l.length ≤ 5864062014634) (k : Int) (hk : I64 k) (ak : Bool) (hz : 0 < l.length → ∀ b, lv.ownBlock = some b → ¬ Z b) :
    Calls Try.prog 12 #[.pointer (some ⟨p, 0, none⟩), .agg #[.int .i64 on, .int .i64 f1, .int .i64 f2, lv, .int .i64 k, .bool ak]] w fun e w' => e = .returned (.bool true) ∧ BkM Z w' p (noteP f (f1, f2) l k) ∧ Fr Z w w' := by
  obtain ⟨q, hq⟩ : ∃ q, Hid (w.heap.size = q) := ⟨_, hide rfl⟩
  obtain ⟨la, lc, rfl, hl1, hl2⟩ := hl.shape
  obtain ⟨L, hL⟩ : ∃ L, Hid (l.length = L) := ⟨_, hide rfl⟩
  obtain ⟨Z1, hZ1⟩ : ∃ Z1 : Nat → Prop, Hid ((fun b => Z b ∧ b < w.heap.size) = Z1) := ⟨_, hide rfl⟩
  have HZ1 : Hid (∀ b, Z1 b → Z b ∧ b < w.heap.size) := fun b hb => by rw [← unhide hZ1] at hb; exact hb
  have HB : Hid (BkM Z1 w p f) := by unfold Hid; rw [← unhide hZ1]; exact h.mono (fun b hb hz => ⟨hz, hb⟩)
  have HBO := hide (fun (W : World) (F : List (List Sp)) (hF : BkM Z1 W p F) => hF.mono (Z' := Z) (fun b _ hb => (unhide HZ1 b hb).1))
  have HL : Hid (∀ W (S : Nat → Prop), Fr S w W → (∀ b, S b → Z b ∨ w.heap.size ≤ b) → Rx W 2 (.slice la L lc) l.length (flt enI l)) := fun W S hW hS => by
    rw [← unhide hL]
    by_cases h0 : 0 < l.length
    · refine hl.fr hW (fun b hb e => ?_)
      rcases hS b e with e | e
      · exact hz h0 b hb e
      · obtain ⟨_, a, c, e1, _, _, e2⟩ := hl
        cases e1
        obtain ⟨b', o', e3, hlt, _⟩ := e2 h0
        subst e3
        have hbb : b' = b := Option.some.inj hb
        omega
    · obtain ⟨e0, a, c, e1, e2, e3, e4⟩ := hl
      exact ⟨e0, a, c, e1, e2, e3, fun h => absurd h h0⟩
  have HN : Hid (l.length ≤ 8796093021952) := by unfold Hid; omega
  have HLL := hide hll
  clear hz h hll
  rw [unhide hL] at hl1 ⊢
  clear hl
  unfold maxLen at hl2
  obtain ⟨W0, hW0⟩ : ∃ W, Hid (w.alloc (.cells #[.int .i64 on, .int .i64 f1, .int .i64 f2, .slice la L lc, .int .i64 k, .bool ak] 38) = W) := ⟨_, hide rfl⟩
  have HB0 : Hid (Below w.heap.size w W0) := by unfold Hid; rw [← unhide hW0]; exact (Below.refl _ w).alloc (Nat.le_refl _) _
  have k0 : W0.heap[q]? = some (.cells #[.int .i64 on, .int .i64 f1, .int .i64 f2, .slice la L lc, .int .i64 k, .bool ak] 38) := by rw [← unhide hW0, ← unhide hq]; exact heap_alloc_new w _
  have HK0 := hide k0
  have c3 := (blk_cells k0).1 3
  have l0 := (blk_cells k0).2.2
  clear k0
  go_enter Try.func12, Try.ntmps12
  go_wp2_with fail
  rw [unhide hq, unhide hW0]
  clear hW0
  go_wp2_with fail
  refine (lentV_any (unhide HL W0 (fun _ => False) (Fr.of_below (unhide HB0)) (fun _ e => e.elim)) (unhide HN)).mono ?_
  rintro e w1 ⟨v1, rfl, hG⟩
  obtain ⟨g, off, cap, ev, g1, g2, g3, -⟩ := hG.1.full (by rw [lmV_length]; omega)
  obtain ⟨M, hM⟩ : ∃ M, Hid ((l ++ mkV 64).length = M) := ⟨_, hide rfl⟩
  have HML : Hid (M = L + 64) := by unfold Hid; rw [← unhide hM, lmV_length, unhide hL]
  have hR1 := hG.1
  have hgq := hG.2.2 g (by rw [ev]; rfl)
  have hb01 := hG.2.1
  clear hG
  subst ev
  rw [unhide hM] at hR1 g1 ⊢
  unfold maxLen at g2
  have HR1 := hide hR1
  have HGQ : Hid (q < g ∧ w.heap.size < g) := by
    have e := unhide hq
    unfold Hid
    omega
  have HF01 : Hid (Fr Z1 w w1) := (Fr.of_below (unhide HB0)).trans (Fr.of_below hb01 |>.mono (fun _ _ e => e))
  have HBW : Hid (Below w.heap.size w w1.drew) := by
    have h := (unhide HB0).trans (hb01.mono (unhide HB0).size)
    exact ⟨h.1, h.2, h.3, h.4, h.5⟩
  have HS0 : Hid (Fr Z1 w1 w1.drew) := (Fr.refl _ _).drew
  have HU : Hid (∀ V, Fr Z1 w1 V → V.cell? ⟨q, 1, none⟩ = some (.int .i64 f1) ∧ V.cell? ⟨q, 2, none⟩ = some (.int .i64 f2) ∧ V.cell? ⟨q, 3, none⟩ = some (.slice la L lc) ∧ V.cell? ⟨q, 4, none⟩ = some (.int .i64 k)) := fun V hV => by
    have e := unhide hq
    have hz := hb01.size
    have kb : V.heap[q]? = some (.cells #[.int .i64 on, .int .i64 f1, .int .i64 f2, .slice la L lc, .int .i64 k, .bool ak] 38) := by
      rw [hV.block q (by omega) (fun hb => by have := (unhide HZ1 q hb).2; omega), hb01.block q l0]
      exact unhide HK0
    exact ⟨(blk_cells kb).1 1, (blk_cells kb).1 2, (blk_cells kb).1 3, (blk_cells kb).1 4⟩
  have HNT : Hid (Calls Try.prog 27 #[.pointer (some ⟨p, 0, none⟩), .int .i64 f1, .int .i64 f2, .slice (some ⟨g, off, none⟩) L cap, .int .i64 k] w1.drew fun e w' => e = .returned (.tuple #[]) ∧ Hid (BkM Z1 w' p (noteP f (f1, f2) l k)) ∧ Hid (Fr Z1 w1 w')) := by
    have hbk : BkM Z1 w1.drew p f := (unhide HB).fr (Fr.of_below (S := fun _ => False) (unhide HBW)) (fun _ _ _ e => e)
    have hrx : Rx w1.drew 2 (.slice (some ⟨g, off, none⟩) L cap) l.length (flt enI l) := by
      have h1 := (unhide HR1).upto rfl (k := L) (by have := unhide HML; omega)
      rw [← unhide hL, take_flt2] at h1
      rw [← unhide hL]
      exact (Rx.of_ro h1).fr (unhide HS0) (fun b hb e => by have hbb : g = b := Option.some.inj hb; have := (unhide HZ1 _ e).2; have := (unhide HGQ).2; omega)
    exact (note_any hbk hO (f1, f2) hs hrx (unhide HLL) k hk).mono (fun e w' ⟨h1, h2, h3⟩ => ⟨h1, h2, (unhide HS0).trans h3⟩)
  have m1 : (L : Int) ≤ (cap : Int) := by have := unhide HML; omega
  clear c3 hR1 hb01 hs
  go_wp2_with fail
  refine wp_region_held_drew (S := (fun V => Fr Z1 w1 V)) (by kernel_rfl) (unhide HS0) (fun hHeld => ?_)
  clear hHeld
  refine wpAnyH_take (i := 0) (oi := _) (v := .pointer (some ⟨p, 0, none⟩)) rfl (by kernel_rfl) (by kernel_rfl) (by kernel_rfl) (fun _ _ _ h => h) (Or.inl ⟨by rfl, (by intro w' hSw; obtain ⟨x1, x2, x3, x4⟩ := unhide HU w' hSw; go_simp)⟩) (unhide HS0) ?_
  go_simp
  refine wpAnyH_take (i := 1) (oi := _) (v := .pointer (some ⟨q, 1, none⟩)) rfl (by kernel_rfl) (by kernel_rfl) (by kernel_rfl) (fun _ _ _ h => h) (Or.inl ⟨by rfl, (by intro w' hSw; obtain ⟨x1, x2, x3, x4⟩ := unhide HU w' hSw; go_simp)⟩) (unhide HS0) ?_
  go_simp
  refine wpAnyH_take (i := 2) (oi := _) (v := .int .i64 f1) rfl (by kernel_rfl) (by kernel_rfl) (by kernel_rfl) (fun _ _ _ h => h) (Or.inl ⟨by rfl, (by intro w' hSw; obtain ⟨x1, x2, x3, x4⟩ := unhide HU w' hSw; go_simp)⟩) (unhide HS0) ?_
  go_simp
  refine wpAnyH_take (i := 3) (oi := _) (v := .pointer (some ⟨q, 2, none⟩)) rfl (by kernel_rfl) (by kernel_rfl) (by kernel_rfl) (fun _ _ _ h => h) (Or.inl ⟨by rfl, (by intro w' hSw; obtain ⟨x1, x2, x3, x4⟩ := unhide HU w' hSw; go_simp)⟩) (unhide HS0) ?_
  go_simp
  refine wpAnyH_take (i := 4) (oi := _) (v := .int .i64 f2) rfl (by kernel_rfl) (by kernel_rfl) (by kernel_rfl) (fun _ _ _ h => h) (Or.inl ⟨by rfl, (by intro w' hSw; obtain ⟨x1, x2, x3, x4⟩ := unhide HU w' hSw; go_simp)⟩) (unhide HS0) ?_
  go_simp
  refine wpAnyH_take (i := 5) (oi := _) (v := .slice (some ⟨g, off, none⟩) M cap) rfl (by kernel_rfl) (by kernel_rfl) (by kernel_rfl) (fun _ _ _ h => h) (Or.inl ⟨by rfl, (by intro w' hSw; obtain ⟨x1, x2, x3, x4⟩ := unhide HU w' hSw; go_simp)⟩) (unhide HS0) ?_
  go_simp
  refine wpAnyH_take (i := 6) (oi := _) (v := .pointer (some ⟨q, 3, none⟩)) rfl (by kernel_rfl) (by kernel_rfl) (by kernel_rfl) (fun _ _ _ h => h) (Or.inl ⟨by rfl, (by intro w' hSw; obtain ⟨x1, x2, x3, x4⟩ := unhide HU w' hSw; go_simp)⟩) (unhide HS0) ?_
  go_simp
  refine wpAnyH_take (i := 7) (oi := _) (v := .slice la L lc) rfl (by kernel_rfl) (by kernel_rfl) (by kernel_rfl) (fun _ _ _ h => h) (Or.inl ⟨by rfl, (by intro w' hSw; obtain ⟨x1, x2, x3, x4⟩ := unhide HU w' hSw; go_simp)⟩) (unhide HS0) ?_
  go_simp
  refine wpAnyH_take (i := 8) (oi := _) (v := .int .i64 (L : Int)) rfl (by kernel_rfl) (by kernel_rfl) (by kernel_rfl) (fun _ _ _ h => h) (Or.inl ⟨by rfl, (by intro w' hSw; obtain ⟨x1, x2, x3, x4⟩ := unhide HU w' hSw; go_simp)⟩) (unhide HS0) ?_
  go_simp
  refine wpAnyH_take (i := 9) (oi := _) (v := .slice (some ⟨g, off, none⟩) L cap) rfl (by kernel_rfl) (by kernel_rfl) (by kernel_rfl) (fun _ _ _ h => h) (Or.inl ⟨by rfl, (by intro w' hSw; obtain ⟨x1, x2, x3, x4⟩ := unhide HU w' hSw; go_simp)⟩) (unhide HS0) ?_
  go_simp
  refine wpAnyH_take (i := 10) (oi := _) (v := .pointer (some ⟨q, 4, none⟩)) rfl (by kernel_rfl) (by kernel_rfl) (by kernel_rfl) (fun _ _ _ h => h) (Or.inl ⟨by rfl, (by intro w' hSw; obtain ⟨x1, x2, x3, x4⟩ := unhide HU w' hSw; go_simp)⟩) (unhide HS0) ?_
  go_simp
  refine wpAnyH_take (i := 11) (oi := _) (v := .int .i64 k) rfl (by kernel_rfl) (by kernel_rfl) (by kernel_rfl) (fun _ _ _ h => h) (Or.inl ⟨by rfl, (by intro w' hSw; obtain ⟨x1, x2, x3, x4⟩ := unhide HU w' hSw; go_simp)⟩) (unhide HS0) ?_
  go_simp
  refine wpAnyH_ready (rs := [12]) (by kernel_rfl) (by simp) ?_
  refine AllReadyH.cons (o := _) rfl (fun K hK => ?_) AllReadyH.nil
  go_simp
  refine (unhide HNT).mono ?_
  rintro e w2 ⟨rfl, HBK, HF2⟩
  go_simp
  refine hK.out _ _ (unhide HF2) (fun _ => ?_)
  clear hK K
  go_simp
  refine wpAnyH_done (by kernel_rfl) ?_ _

  obtain ⟨x1, x2, x3, x4⟩ := unhide HU w2 (unhide HF2)
  have HRO2 : Hid (Ro w2 2 (.slice (some ⟨g, off, none⟩) M cap) M (flt enI (l ++ mkV 64))) := (unhide HR1).fr (unhide HF2) (fun b hb e => by have hbb : g = b := Option.some.inj hb; have := (unhide HZ1 _ e).2; have := (unhide HGQ).2; omega)
  have HR2 : Hid (Rx w2 2 (.slice (some ⟨g, off, none⟩) M cap) (l ++ mkV 64).length (flt enI (l ++ mkV 64))) := by unfold Hid; rw [unhide hM]; exact Rx.of_ro (unhide HRO2)
  have HL2 : Hid (Rx w2 2 (.slice la L lc) l.length (flt enI l)) := unhide HL w2 Z1 ((unhide HF01).trans (unhide HF2)) (fun b hb => .inl (unhide HZ1 b hb).1)
  go_wp2_with fail
  refine (keptV_any (l := l) (unhide HR2) (unhide HL2) (unhide HN)).mono ?_
  rintro e w3 ⟨rfl, hb3⟩
  clear x1 x2 x3 x4
  have HR3 : Hid (Ro w3 2 (.slice (some ⟨g, off, none⟩) M cap) M (flt enI (l ++ mkV 64))) := (unhide HRO2).fr (Fr.of_below (S := fun _ => False) hb3) (fun _ _ e => e)
  have HB3 := hide hb3
  clear hb3
  go_wp2_with fail
  go_loopg [7] M (fun gg t7 wr => ∃ (i : Nat) (xs : List (Int × Int)), Hid (i + gg = M) ∧ t7 = .int .i64 (i : Int) ∧ Hid (Ro wr 2 (.slice (some ⟨g, off, none⟩) M cap) M (flt enI xs) ∧ xs.length = M ∧ Fr (fun b => b = g) w3 wr))
  case atStart => exact ⟨0, _, by unfold Hid; omega, rfl, unhide HR3, unhide hM, Fr.refl _ _⟩
  case round =>
    obtain ⟨i, xs, hi, rfl, hK⟩ := hrel
    by_cases hlt : i < M
    · have i0 : (0 : Int) ≤ (i : Int) := by omega
      have i1 : (i : Int) < (M : Int) := by omega
      have hro := (unhide hK).1
      obtain ⟨g', off', cap', eg, -, -, hgl, hgc⟩ := hro.full (by omega)
      cases eg
      have fz : ∀ k, wr.frozen? ⟨g, k, none⟩ = false := fun k => hro.free rfl k
      have yy : ∀ c, c < 2 → ∃ u, wr.cell? ⟨g, off + i * 2 + c, none⟩ = some u := fun c hc => by
        have := hgc (i * 2 + c) (by omega)
        rw [← Nat.add_assoc] at this
        rw [this]
        exact ⟨_, List.getElem?_eq_getElem (by rw [hro.1]; omega)⟩
      obtain ⟨u0, y0⟩ := yy 0 (by omega)
      obtain ⟨u1, y1⟩ := yy 1 (by omega)
      rw [Nat.add_zero] at y0
      have fz0 := fz (off + i * 2)
      have fz1 := fz (off + i * 2 + 1)
      have HPT : Hid (∀ d : Int, Ro ((wr.setCell ⟨g, off + i * 2, none⟩ (.int .i64 d)).setCell ⟨g, off + i * 2 + 1, none⟩ (.int .i64 0)) 2 (.slice (some ⟨g, off, none⟩) M cap) M (flt enI (xs.set i (d, 0))) ∧ (xs.set i (d, 0)).length = M ∧ Fr (fun b => b = g) w3 ((wr.setCell ⟨g, off + i * 2, none⟩ (.int .i64 d)).setCell ⟨g, off + i * 2 + 1, none⟩ (.int .i64 0))) := fun d => by
        obtain ⟨r1, r2⟩ := hro.putAt zI (unhide hK).2.1 rfl hlt (d, 0)
        exact ⟨r1, by rw [List.length_set]; exact (unhide hK).2.1, (unhide hK).2.2.trans r2⟩
      clear hro hgc fz yy hK
      go_wp2_with fail
      go_roundg (gk - 1)
      case measure => have := unhide hi; omega
      case rel => exact ⟨i + 1, _, by have := unhide hi; unfold Hid; omega, by go_num, unhide HPT _⟩
    · have hiM : i = M := by have := unhide hi; omega
      subst hiM
      go_wp2_with fail
      go_ret
      have hf := (unhide hK).2.2
      have h3 := unhide HB3
      have hz2 := (unhide HF2).size
      refine ⟨rfl, unhide HBO _ _ (((unhide HBK).below h3).fr hf (fun b _ hb e => by have := (unhide HZ1 b hb).2; have := (unhide HGQ).2; omega)), ?_⟩
      have f1 : Fr Z w w1 := (unhide HF01).mono (fun b _ hb => (unhide HZ1 b hb).1)
      have f2 : Fr Z w1 w2 := (unhide HF2).mono (fun b _ hb => (unhide HZ1 b hb).1)
      exact ((f1.trans f2).trans (Fr.of_below h3)).step hf (fun b hb e => by have := (unhide HGQ).2; omega)
end Go.Proofs.Ytjjfpokmpcpicaa
