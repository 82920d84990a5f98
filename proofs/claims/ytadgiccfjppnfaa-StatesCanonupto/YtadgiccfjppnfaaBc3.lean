/-
  The document's Canon.
-/
import Derived.Test.YtadgiccfjppnfaaBc2
namespace Go.Proofs.Ytadgiccfjppnfaa
open Go.RowKit
set_option linter.unusedVariables false
set_option linter.unusedSimpArgs false
def cst (l : List Value) : Nat → Value := fun j => l.getD j (.slice none 0 0)
/-- What Canon answers. -/
def CnP (w : World) (s : St) (e : Ending) (w' : World) : Prop := ∃ v', e = .returned v' ∧ StV w' v' s ∧ Below w.heap.size w w'
/-- Six cells are set. -/
theorem six_set {w : World} {b : Nat} {z0 z1 z2 z3 z4 z5 : Value} {t : TypeId} (h : w.heap[b]? = some (.cells #[z0, z1, z2, z3, z4, z5] t)) (v0 v1 v2 v3 v4 v5 : Value) :
    ((((((w.setCell ⟨b, 0, none⟩ v0).setCell ⟨b, 1, none⟩ v1).setCell ⟨b, 2, none⟩ v2).setCell ⟨b, 3, none⟩ v3).setCell ⟨b, 4, none⟩ v4).setCell ⟨b, 5, none⟩ v5).heap[b]? = some (.cells #[v0, v1, v2, v3, v4, v5] t) ∧
    Fr (fun k => k = b) w ((((((w.setCell ⟨b, 0, none⟩ v0).setCell ⟨b, 1, none⟩ v1).setCell ⟨b, 2, none⟩ v2).setCell ⟨b, 3, none⟩ v3).setCell ⟨b, 4, none⟩ v4).setCell ⟨b, 5, none⟩ v5) := by
  have h0 : (w.setCell ⟨b, 0, none⟩ v0).heap[b]? = some (.cells #[v0, z1, z2, z3, z4, z5] t) := by rw [setCell_block h v0]; rfl
  have h1 : ((w.setCell ⟨b, 0, none⟩ v0).setCell ⟨b, 1, none⟩ v1).heap[b]? = some (.cells #[v0, v1, z2, z3, z4, z5] t) := by rw [setCell_block h0 v1]; rfl
  have h2 : (((w.setCell ⟨b, 0, none⟩ v0).setCell ⟨b, 1, none⟩ v1).setCell ⟨b, 2, none⟩ v2).heap[b]? = some (.cells #[v0, v1, v2, z3, z4, z5] t) := by rw [setCell_block h1 v2]; rfl
  have h3 : ((((w.setCell ⟨b, 0, none⟩ v0).setCell ⟨b, 1, none⟩ v1).setCell ⟨b, 2, none⟩ v2).setCell ⟨b, 3, none⟩ v3).heap[b]? = some (.cells #[v0, v1, v2, v3, z4, z5] t) := by rw [setCell_block h2 v3]; rfl
  have h4 : (((((w.setCell ⟨b, 0, none⟩ v0).setCell ⟨b, 1, none⟩ v1).setCell ⟨b, 2, none⟩ v2).setCell ⟨b, 3, none⟩ v3).setCell ⟨b, 4, none⟩ v4).heap[b]? = some (.cells #[v0, v1, v2, v3, v4, z5] t) := by rw [setCell_block h3 v4]; rfl
  refine ⟨by rw [setCell_block h4 v5]; rfl, ?_⟩
  exact ((((((Fr.refl (fun k => k = b) w).setCell ⟨b, 0, none⟩ (.inr rfl) v0).setCell ⟨b, 1, none⟩ (.inr rfl) v1).setCell ⟨b, 2, none⟩ (.inr rfl) v2).setCell ⟨b, 3, none⟩ (.inr rfl) v3).setCell ⟨b, 4, none⟩ (.inr rfl) v4).setCell ⟨b, 5, none⟩ (.inr rfl) v5
set_option maxRecDepth 100000 in
set_option maxHeartbeats 25600000 in
theorem dCanon_any {w : World} {v : Value} {s : St} (h : StV w v s) (hs : StB s) : Calls Try.prog 7 #[v] w (CnP w (canD s)) := by
  obtain ⟨ta, tc, oa, oc, ba, bc, rfl, rt, ro, rb, t1, t2, o1, o2, b1, b2⟩ := h.shape
  unfold maxLen at t2 o2 b2
  have HT := hide (fun i p (hp : s.texts[i]? = some p) => rt.elem zT hp)
  have HO := hide ro
  have HFb := hide rb
  have HS := hide hs
  have n0 := hs.tl
  have n1 := hs.ol
  have n2 := hs.bl
  obtain ⟨NT, hNT⟩ : ∃ n, Hid (s.texts.length = n) := ⟨_, hide rfl⟩
  obtain ⟨NO, hNO⟩ : ∃ n, Hid (s.objs.length = n) := ⟨_, hide rfl⟩
  obtain ⟨NB, hNB⟩ : ∃ n, Hid (s.fibs.length = n) := ⟨_, hide rfl⟩
  rw [unhide hNT, unhide hNO, unhide hNB]
  rw [unhide hNT] at t1 n0 HT
  rw [unhide hNO] at o1 n1 HO
  rw [unhide hNB] at b1 n2 HFb
  clear h rt ro rb hs
  obtain ⟨p1, p2, p3⟩ := blk3 w (.cells #[.slice ta NT tc, .slice oa NO oc, .slice ba NB bc, .int .i64 s.cur, .int .i64 s.steps, .int .i64 s.spent, .int .i64 s.read] 26) (.cells #[.slice none 0 0, .slice none 0 0, .slice none 0 0, .int .i64 0, .int .i64 0, .int .i64 0, .int .i64 0] 26) (.cells #[.slice ta NT tc, .slice oa NO oc, .slice ba NB bc, .int .i64 s.cur, .int .i64 s.steps, .int .i64 s.spent, .int .i64 s.read, .slice none 0 0, .slice none 0 0, .slice none 0 0, .slice none 0 0] 66)
  have HC0 : Hid (CB w (cst [.slice ta NT tc, .slice oa NO oc, .slice ba NB bc, .int .i64 s.cur, .int .i64 s.steps, .int .i64 s.spent, .int .i64 s.read]) #[.slice ta NT tc, .slice oa NO oc, .slice ba NB bc, .int .i64 s.cur, .int .i64 s.steps, .int .i64 s.spent, .int .i64 s.read] 0 0 (cst [.slice ta NT tc, .slice oa NO oc, .slice ba NB bc, .int .i64 s.cur, .int .i64 s.steps, .int .i64 s.spent, .int .i64 s.read]) (((w.alloc (.cells #[.slice ta NT tc, .slice oa NO oc, .slice ba NB bc, .int .i64 s.cur, .int .i64 s.steps, .int .i64 s.spent, .int .i64 s.read] 26)).alloc (.cells #[.slice none 0 0, .slice none 0 0, .slice none 0 0, .int .i64 0, .int .i64 0, .int .i64 0, .int .i64 0] 26)).alloc (.cells #[.slice ta NT tc, .slice oa NO oc, .slice ba NB bc, .int .i64 s.cur, .int .i64 s.steps, .int .i64 s.spent, .int .i64 s.read, .slice none 0 0, .slice none 0 0, .slice none 0 0, .slice none 0 0] 66)) ([], [])) := by
    have hnil : ∀ i, 7 ≤ i → (cst [.slice ta NT tc, .slice oa NO oc, .slice ba NB bc, .int .i64 s.cur, .int .i64 s.steps, .int .i64 s.spent, .int .i64 s.read]) i = .slice none 0 0 := fun i hi => by unfold cst; simp [List.getD, List.getElem?_eq_none (show ([.slice ta NT tc, .slice oa NO oc, .slice ba NB bc, .int .i64 s.cur, .int .i64 s.steps, .int .i64 s.spent, .int .i64 s.read] : List Value).length ≤ i by simpa using hi)]
    refine hide ⟨⟨p3, by omega, ?_, ?_, ?_, ?_, fun i k h1 h2 hk => ?_, fun i j k h1 h2 h3 h4 hij hk => ?_⟩, fun _ _ => rfl, p1, p2, bl_three w _ _ _, fun k hk => ?_⟩
    · rw [hnil 7 (by omega)]; simpa [flt] using Ro.nil _ _
    · rw [hnil 8 (by omega)]; simpa [flt] using Ro.nil _ _
    · rw [hnil 9 (by omega)]; simpa [flt, allP] using Ro.nil _ _
    · rw [hnil 10 (by omega)]; simpa [flt, allP] using Ro.nil _ _
    · rw [hnil i h1] at hk; cases hk
    · rw [hnil i h1] at hk; cases hk
    · rcases hk with rfl | ⟨i, h1, h2, hk⟩
      · exact Nat.le_refl _
      · rw [hnil i h1] at hk; cases hk
  clear p1 p2 p3
  go_enter Try.func7, Try.ntmps7
  go_wp2_with fail
  go_loopg [4] NT (fun g t4 wr => ∃ (i : Nat) (c : Nat → Value), Hid (i + g = NT) ∧ t4 = .int .i64 (i : Int) ∧ Hid (CB w (cst [.slice ta NT tc, .slice oa NO oc, .slice ba NB bc, .int .i64 s.cur, .int .i64 s.steps, .int .i64 s.spent, .int .i64 s.read]) #[.slice ta NT tc, .slice oa NO oc, .slice ba NB bc, .int .i64 s.cur, .int .i64 s.steps, .int .i64 s.spent, .int .i64 s.read] i 0 c wr ([], [])))
  case atStart => exact ⟨0, _, by unfold Hid; omega, rfl, HC0⟩
  case round =>
    clear HC0
    obtain ⟨i, c, hi, rfl, hG⟩ := hrel
    have m0 := (blk_cells (unhide hG).p).1 0
    simp at m0
    by_cases hlt : i < NT
    · obtain ⟨a9, p9, e9, q9, q9'⟩ := (unhide hG).b.r3.shape
      have HE9 := hide e9
      have m9 : wr.cell? ⟨w.heap.size + 1 + 1, 9, none⟩ = some (.slice a9 i p9) := by rw [(unhide hG).b.cell 9, ← e9]; rfl
      have i1 : (i : Int) < (NT : Int) := by omega
      have HRo : Hid (∀ O, Ro (wr.alloc O) 1 (.slice a9 i p9) i (flt enL (allP i []))) := fun O => by
        have := (unhide hG).b.r3.fr ((Fr.refl (fun _ => False) wr).alloc O) (fun _ _ e => e)
        rw [e9] at this
        exact this
      have HNC := hide (new_cells wr #[.int .i64 (-1)] 3)
      have hbl := (blk_cells (unhide hG).b.box).2.2
      unfold maxLen at q9'
      clear e9
      go_wp2_with (first | (at_builtin; refine appNL rfl _ _ rfl _ i (allP i []) rfl (unhide HRo _) ⟨wr.heap.size, 0, none⟩ 1 (-1) rfl (unhide HNC) (by omega) ?_))
      intro v' w2 hr hg hat
      obtain ⟨va, vc, ev, -, -⟩ := hr.shape
      obtain ⟨r1, r2⟩ := (unhide hG).grow9 ((Below.refl _ wr).alloc (Nat.le_refl _) _) hr rfl (by rw [unhide HE9]; exact hg) (by rw [unhide HE9]; simpa using hat)
      have x9 : w2.cell? ⟨w.heap.size + 1 + 1, 9, none⟩ = some (c 9) := (blk_cells r2).1 9
      have xf := (blk_cells r2).2.1 9
      have xl := (blk_cells r2).2.2
      have HR1 := hide r1
      subst ev
      clear hr hg hat r1 r2 HRo HNC m9 hG
      go_wp2_with fail
      go_roundg (gk - 1)
      case measure => have := unhide hi; omega
      case rel => exact ⟨i + 1, _, by have := unhide hi; unfold Hid; omega, by go_num, HR1⟩
    · have hiL : NT = i := by have := unhide hi; omega
      subst hiL
      have HC1 := hG
      clear hG
      go_wp2_with fail
      go_loopg [5] NO (fun g t5 wr => ∃ (i : Nat) (c : Nat → Value), Hid (i + g = NO) ∧ t5 = .int .i64 (i : Int) ∧ Hid (CB w (cst [.slice ta NT tc, .slice oa NO oc, .slice ba NB bc, .int .i64 s.cur, .int .i64 s.steps, .int .i64 s.spent, .int .i64 s.read]) #[.slice ta NT tc, .slice oa NO oc, .slice ba NB bc, .int .i64 s.cur, .int .i64 s.steps, .int .i64 s.spent, .int .i64 s.read] NT i c wr ([], [])))
      case atStart => exact ⟨0, _, by unfold Hid; omega, rfl, HC1⟩
      case round =>
        clear HC1
        obtain ⟨i, c, hi, rfl, hG⟩ := hrel
        have m1 := (blk_cells (unhide hG).p).1 1
        simp at m1
        by_cases hlt : i < NO
        · obtain ⟨a9, p9, e9, q9, q9'⟩ := (unhide hG).b.r4.shape
          have HE9 := hide e9
          have m9 : wr.cell? ⟨w.heap.size + 1 + 1, 10, none⟩ = some (.slice a9 i p9) := by rw [(unhide hG).b.cell 10, ← e9]; rfl
          have i1 : (i : Int) < (NO : Int) := by omega
          have HRo : Hid (∀ O, Ro (wr.alloc O) 1 (.slice a9 i p9) i (flt enL (allP i []))) := fun O => by
            have := (unhide hG).b.r4.fr ((Fr.refl (fun _ => False) wr).alloc O) (fun _ _ e => e)
            rw [e9] at this
            exact this
          have HNC := hide (new_cells wr #[.int .i64 (-1)] 3)
          have hbl := (blk_cells (unhide hG).b.box).2.2
          unfold maxLen at q9'
          clear e9
          go_wp2_with (first | (at_builtin; refine appNL rfl _ _ rfl _ i (allP i []) rfl (unhide HRo _) ⟨wr.heap.size, 0, none⟩ 1 (-1) rfl (unhide HNC) (by omega) ?_))
          intro v' w2 hr hg hat
          obtain ⟨va, vc, ev, -, -⟩ := hr.shape
          obtain ⟨r1, r2⟩ := (unhide hG).grow10 ((Below.refl _ wr).alloc (Nat.le_refl _) _) hr rfl (by rw [unhide HE9]; exact hg) (by rw [unhide HE9]; simpa using hat)
          have x9 : w2.cell? ⟨w.heap.size + 1 + 1, 10, none⟩ = some (c 10) := (blk_cells r2).1 10
          have xf := (blk_cells r2).2.1 10
          have xl := (blk_cells r2).2.2
          have HR1 := hide r1
          subst ev
          clear hr hg hat r1 r2 HRo HNC m9 hG
          go_wp2_with fail
          go_roundg (gk - 1)
          case measure => have := unhide hi; omega
          case rel => exact ⟨i + 1, _, by have := unhide hi; unfold Hid; omega, by go_num, HR1⟩
        · have hiL : NO = i := by have := unhide hi; omega
          subst hiL
          have HC2 := hG
          clear hG
          obtain ⟨za, -, -⟩ := blk_cells (unhide HC2).p
          have m3 := za 3
          have m4 := za 4
          have m5 := za 5
          have m6 := za 6
          simp at m3 m4 m5 m6
          have hb2 := (blk_cells (unhide HC2).b.box).2.2
          have HX0 : Hid (CX w (cst [.slice ta NT tc, .slice oa NO oc, .slice ba NB bc, .int .i64 s.cur, .int .i64 s.steps, .int .i64 s.spent, .int .i64 s.read]) #[.slice ta NT tc, .slice oa NO oc, .slice ba NB bc, .int .i64 s.cur, .int .i64 s.steps, .int .i64 s.spent, .int .i64 s.read] NT NO wr.heap.size s c (wr.alloc (.cells #[.slice none 0 0, .slice none 0 0, .slice none 0 0, .int .i64 s.cur, .int .i64 s.steps, .int .i64 s.spent, .int .i64 s.read] 26)) ([], []) (.slice none 0 0) (.slice none 0 0) (.slice none 0 0)) := by
            have hal : Below wr.heap.size wr (wr.alloc (.cells #[.slice none 0 0, .slice none 0 0, .slice none 0 0, .int .i64 s.cur, .int .i64 s.steps, .int .i64 s.spent, .int .i64 s.read] 26)) := (Below.refl _ wr).alloc (Nat.le_refl _) _
            exact hide ⟨(unhide HC2).below hal, heap_alloc_new wr _, fun e => by have := ((unhide HC2).b.in e).2; omega, hb2⟩
          have HM0 : Hid (MOk NT s.objs.length ([], [])) := hide ⟨by simp, by simp, by simp, by simp⟩
          clear HC2 za
          go_wp2_with fail
          obtain ⟨X, hX⟩ : ∃ X, Hid (wr.heap.size = X) := ⟨_, hide rfl⟩
          rw [unhide hX] at HX0 ⊢
          go_loopg [7] NB (fun g t7 wr => ∃ (j : Nat) (c : Nat → Value) (bv : Value) (xb : List (Value × List Fmv)), Hid (j + g = NB) ∧ t7 = .int .i64 (j : Int) ∧ Hid (CX w (cst [.slice ta NT tc, .slice oa NO oc, .slice ba NB bc, .int .i64 s.cur, .int .i64 s.steps, .int .i64 s.spent, .int .i64 s.read]) #[.slice ta NT tc, .slice oa NO oc, .slice ba NB bc, .int .i64 s.cur, .int .i64 s.steps, .int .i64 s.spent, .int .i64 s.read] NT NO X s c wr (metF NT s.objs ([], []) (s.fibs.take j)) (.slice none 0 0) (.slice none 0 0) bv ∧ OB (fun k => X + 1 ≤ k ∧ ¬ bkb c (w.heap.size + 1 + 1) k) wr bv (numF NT s.objs ([], []) (s.fibs.take j)) xb))
          case atStart => exact ⟨0, _, _, [], by unfold Hid; omega, rfl, by simpa [metF, numF] using ⟨unhide HX0, OW.nil _⟩⟩
          case round =>
            clear HX0
            obtain ⟨j, c, bv, xb, hj, rfl, hG⟩ := hrel
            have m2 := (blk_cells (unhide hG).1.a.p).1 2
            simp at m2
            by_cases hltj : j < NB
            · obtain ⟨fb, hfb⟩ : ∃ f, s.fibs[j]? = some f := ⟨_, List.getElem?_eq_getElem (by rw [unhide hNB]; exact hltj)⟩
              obtain ⟨hfbl, hfbs⟩ := (unhide HS).bs fb (List.mem_of_getElem? hfb)
              obtain ⟨ib, io, ja, jc, ei, hib, ki, hFs, hjl, hjm⟩ := (unhide HFb).one hfb
              subst ei
              obtain ⟨FL, hFL⟩ : ∃ n, Hid (fb.length = n) := ⟨_, hide rfl⟩
              rw [unhide hFL] at hfbl ki hFs hjl
              unfold maxLen at hjm
              have HFs := hide hFs
              have HFS := hide hfbs
              have HFB := hide hfb
              have HKI := hide ki
              obtain ⟨gO, hgO⟩ : ∃ g, Hid (gk = g) := ⟨_, hide rfl⟩
              have j0 : (0 : Int) ≤ (j : Int) := by omega
              have j1 : (j : Int) < (NB : Int) := by omega
              obtain ⟨D, hD⟩ : ∃ D, Hid (wr.heap.size = D) := ⟨_, hide rfl⟩
              have hXD : X < D := by rw [← unhide hD]; exact (Array.getElem?_eq_some_iff.1 (unhide hG).1.x).1
              have HI0 : Hid (CX w (cst [.slice ta NT tc, .slice oa NO oc, .slice (some ⟨ib, io, none⟩) NB bc, .int .i64 s.cur, .int .i64 s.steps, .int .i64 s.spent, .int .i64 s.read]) #[.slice ta NT tc, .slice oa NO oc, .slice (some ⟨ib, io, none⟩) NB bc, .int .i64 s.cur, .int .i64 s.steps, .int .i64 s.spent, .int .i64 s.read] NT NO X s c wr (metM NT s.objs (metF NT s.objs ([], []) (s.fibs.take j)) (fb.take 0)) (.slice none 0 0) (.slice none 0 0) bv ∧ OB (ZC w c (X + 1) D) wr bv (numF NT s.objs ([], []) (s.fibs.take j)) xb ∧ OM (fun q => D ≤ q ∧ ¬ bkb c (w.heap.size + 1 + 1) q) wr (.slice none 0 0) (numM NT s.objs (metF NT s.objs ([], []) (s.fibs.take j)) (fb.take 0)) [] ∧ D ≤ wr.heap.size) := by
                obtain ⟨g1, g2⟩ := unhide hG
                refine hide ⟨by simpa [metM] using g1, g2.mono (fun q hq hz => ⟨hz.1, by rw [← unhide hD]; exact hq, hz.2⟩), by simpa [numM] using OW.nil _, by rw [unhide hD]; exact Nat.le_refl _⟩
              clear hG hfb hfbs hFs ki
              go_wp2_with fail
              go_loopg [8, 9] FL (fun g t8 t9 wr => ∃ (k : Nat) (c : Nat → Value) (lv : Value) (ys : List Fmv), Hid (k + g = FL) ∧ t8 = lv ∧ t9 = .int .i64 (k : Int) ∧ Hid (CX w (cst [.slice ta NT tc, .slice oa NO oc, .slice (some ⟨ib, io, none⟩) NB bc, .int .i64 s.cur, .int .i64 s.steps, .int .i64 s.spent, .int .i64 s.read]) #[.slice ta NT tc, .slice oa NO oc, .slice (some ⟨ib, io, none⟩) NB bc, .int .i64 s.cur, .int .i64 s.steps, .int .i64 s.spent, .int .i64 s.read] NT NO X s c wr (metM NT s.objs (metF NT s.objs ([], []) (s.fibs.take j)) (fb.take k)) (.slice none 0 0) (.slice none 0 0) bv ∧ OB (ZC w c (X + 1) D) wr bv (numF NT s.objs ([], []) (s.fibs.take j)) xb ∧ OM (fun q => D ≤ q ∧ ¬ bkb c (w.heap.size + 1 + 1) q) wr lv (numM NT s.objs (metF NT s.objs ([], []) (s.fibs.take j)) (fb.take k)) ys ∧ D ≤ wr.heap.size))
              case atStart => exact ⟨0, c, _, [], by unfold Hid; omega, rfl, rfl, HI0⟩
              case round =>
                clear HI0 m2
                obtain ⟨k, c, lv, ys, hk, e8, rfl, hG⟩ := hrel
                obtain rfl := e8.symm
                have m2 := (blk_cells (unhide hG).1.a.p).1 2
                simp at m2
                have ki := ((unhide hG).1.a.bw.cell (p := ⟨ib, io + j, none⟩) hib).trans (unhide HKI)
                have hibr := Nat.lt_of_lt_of_le hib (unhide hG).1.a.bw.size
                by_cases hltk : k < FL
                · obtain ⟨f, hf⟩ : ∃ f, fb[k]? = some f := ⟨_, List.getElem?_eq_getElem (by rw [unhide hFL]; exact hltk)⟩
                  have hsb := unhide HFS f (List.mem_of_getElem? hf)
                  obtain ⟨sb, so, sa, sc, es, hsbl, e0, e1, e2, hxs, hsl, hsm⟩ := (unhide HFs).three hf
                  subst es
                  obtain ⟨g1, g2, g3, g4⟩ := unhide hG
                  have hbw := g1.a.bw
                  have c0' := (hbw.cell (p := ⟨sb, so + k * 3, none⟩) hsbl).trans e0
                  have c1' := (hbw.cell (p := ⟨sb, so + k * 3 + 1, none⟩) hsbl).trans e1
                  have c2' := (hbw.cell (p := ⟨sb, so + k * 3 + 2, none⟩) hsbl).trans e2
                  have hsbr := Nat.lt_of_lt_of_le hsbl hbw.size
                  have q0 : (0 : Int) ≤ (k : Int) := by omega
                  have q1 : (k : Int) < (FL : Int) := by omega
                  obtain ⟨fn, pc, sl⟩ := f
                  simp only at c0' c1' c2' hsb hxs hsl
                  have hal : ∀ O, Below wr.heap.size wr (wr.alloc O) := fun O => (Below.refl _ wr).alloc (Nat.le_refl _) O
                  have HC27 := hide (fun O => bvalues_any (w0 := w) ((g1.below (hal O)).a.b) ((g1.a.c6 0 (by omega)).trans rfl) ((g1.a.c6 1 (by omega)).trans rfl) (unhide HO) (by have := MOk.ms (fb.take k) (MOk.fs (s.fibs.take j) (unhide HM0)); rw [unhide hNO] at this; exact this) n0 n1 (g1.below (hal O)).a.bw hxs hsb)
                  obtain ⟨SLn, hSLn⟩ : ∃ n, Hid (sl.length = n) := ⟨_, hide rfl⟩
                  rw [unhide hSLn] at c2' HC27 hsl hsb
                  unfold maxLen at hsm
                  have HF := hide hf
                  have HG1 := hide g1
                  have HG2 := hide g2
                  have HG3 := hide g3
                  have HAL := hide hal
                  clear hxs hf e0 e1 e2 g1 g2 g3 hG hbw hal
                  go_wp2_with fail
                  refine (unhide HC27 _).mono ?_
                  rintro e w1 ⟨sv, rfl, c1, r1, r2, r3, r4, r5, r6⟩
                  have hnl : (numVs NT s.objs (metM NT s.objs (metF NT s.objs ([], []) (s.fibs.take j)) (fb.take k)) sl).length = SLn := by rw [numVs_length]; exact unhide hSLn
                  rw [hnl] at r5
                  obtain ⟨sva, svc, esv, -, -⟩ := r5.shape
                  subst esv
                  have hltc : ∀ q, bkb c (w.heap.size + 1 + 1) q → q < wr.heap.size := fun q hq => ((unhide HG1).a.b.in hq).2
                  have hltc1 : ∀ q, bkb c1 (w.heap.size + 1 + 1) q → q < w1.heap.size := fun q hq => (r1.in hq).2
                  have hs1 := r2.size
                  simp only [World.size_alloc] at hs1 r3 r6
                  have pF := (r2.block wr.heap.size (by simp) (fun e => by have := hltc _ e; omega)).trans (heap_alloc_new wr (.cells #[.int .i64 fn, .int .i64 pc, .slice sa SLn sc] 38))
                  have x0 := (blk_cells pF).1 0
                  have x1 := (blk_cells pF).1 1
                  have x2 := (blk_cells pF).1 2
                  have xf := (blk_cells pF).2.1 2
                  have xl := (blk_cells pF).2.2
                  simp at x0 x1 x2
                  have hX1 : X < wr.heap.size := (Array.getElem?_eq_some_iff.1 (unhide HG1).x).1
                  have hCX1 : CX w (cst [.slice ta NT tc, .slice oa NO oc, .slice (some ⟨ib, io, none⟩) NB bc, .int .i64 s.cur, .int .i64 s.steps, .int .i64 s.spent, .int .i64 s.read]) #[.slice ta NT tc, .slice oa NO oc, .slice (some ⟨ib, io, none⟩) NB bc, .int .i64 s.cur, .int .i64 s.steps, .int .i64 s.spent, .int .i64 s.read] NT NO X s c1 w1 (metVs NT s.objs (metM NT s.objs (metF NT s.objs ([], []) (s.fibs.take j)) (fb.take k)) sl) (.slice none 0 0) (.slice none 0 0) bv := ((unhide HG1).below (unhide HAL (.cells #[.int .i64 fn, .int .i64 pc, .slice sa SLn sc] 38))).call' r1 r2 (by simpa only [World.size_alloc] using r3) r4
                  have hOB1 : OB (ZC w c1 (X + 1) D) w1 bv (numF NT s.objs ([], []) (s.fibs.take j)) xb := ((unhide HG2).below staysB (unhide HAL (.cells #[.int .i64 fn, .int .i64 pc, .slice sa SLn sc] 38))).book staysB r2 (by simpa only [World.size_alloc] using r3)
                  have hOM1 : OM (fun q => D ≤ q ∧ ¬ bkb c1 (w.heap.size + 1 + 1) q) w1 lv (numM NT s.objs (metF NT s.objs ([], []) (s.fibs.take j)) (fb.take k)) ys := OW.book' staysM ((unhide HG3).below staysM (unhide HAL (.cells #[.int .i64 fn, .int .i64 pc, .slice sa SLn sc] 38))) r2 (by simpa only [World.size_alloc] using r3)
                  have hltM : ∀ q, (lv.ownBlock = some q ∨ ∃ y ∈ ys, blM y q) → q < wr.heap.size := fun q hq => ((unhide HG3).in hq).2
                  have hltB : ∀ q, (bv.ownBlock = some q ∨ ∃ y ∈ xb, blB y q) → q < D := fun q hq => ((unhide HG2).in hq).1.2.1
                  have hlen : (numM NT s.objs (metF NT s.objs ([], []) (s.fibs.take j)) (fb.take k)).length = k := by rw [numM_length]; simp; rw [unhide hFL]; omega
                  have HRo : Hid (∀ O, Ro ((w1.setCell ⟨wr.heap.size, 2, none⟩ (.slice sva SLn svc)).alloc O) 3 lv k (flt enM ys)) := fun O => by
                    have := hOM1.row.fr ((((Fr.refl (fun q => q = wr.heap.size) w1).setCell ⟨wr.heap.size, 2, none⟩ (.inr rfl) (.slice sva SLn svc))).alloc O) (fun q hq e => by have := hltM q (.inl hq); omega)
                    rw [hlen] at this
                    exact this
                  have hszs : (w1.setCell ⟨wr.heap.size, 2, none⟩ (.slice sva SLn svc)).heap.size = w1.heap.size := by simp [World.setCell]
                  have HNC := hide (new_cells (w1.setCell ⟨wr.heap.size, 2, none⟩ (.slice sva SLn svc)) #[.int .i64 fn, .int .i64 pc, .slice sva SLn svc] 38)
                  have HD := hide (And.intro hltM hltB)
                  have HE := hide (And.intro hCX1 (And.intro hOB1 hOM1))
                  have HR := hide (And.intro hltc1 (And.intro r5 (And.intro r6 hltc)))
                  have hk3 : k ≤ 3000000000000 := by omega
                  have HR3 := hide r3
                  clear r1 r2 r3 r4 r5 r6 hCX1 hOB1 hOM1 hltM hltB hltc hltc1 pF HC27 c0' c1' c2'
                  go_wp2_with (first | (at_builtin; refine appM rfl _ _ rfl _ k ys rfl (unhide HRo _) ⟨w1.heap.size, 0, none⟩ 1 ⟨fn, pc, .slice sva SLn svc⟩ rfl (by have := unhide HNC; rw [hszs] at this; exact this) rfl hk3 ?_))
                  intro v' w2 hr hg hat
                  obtain ⟨t1', t2'⟩ := frame_step (c := c) (wr := wr) (f := ⟨fn, pc, numVs NT s.objs (metM NT s.objs (metF NT s.objs ([], []) (s.fibs.take j)) (fb.take k)) sl⟩) (unhide HE).2.2 (unhide HD).1 (by show Ro w1 2 _ (numVs NT s.objs (metM NT s.objs (metF NT s.objs ([], []) (s.fibs.take j)) (fb.take k)) sl).length _; rw [hnl]; exact (unhide HR).2.1) (fun q hq => ⟨by have := ((unhide HR).2.2.1 q hq).1; omega, ((unhide HR).2.2.1 q hq).2⟩) (by omega) (by omega) (unhide HR).1 hr (by rw [hlen]) hg (by rw [World.size_alloc, hszs]; simpa using hat)
                  have hGn : CX w (cst [.slice ta NT tc, .slice oa NO oc, .slice (some ⟨ib, io, none⟩) NB bc, .int .i64 s.cur, .int .i64 s.steps, .int .i64 s.spent, .int .i64 s.read]) #[.slice ta NT tc, .slice oa NO oc, .slice (some ⟨ib, io, none⟩) NB bc, .int .i64 s.cur, .int .i64 s.steps, .int .i64 s.spent, .int .i64 s.read] NT NO X s c1 w2 (metM NT s.objs (metF NT s.objs ([], []) (s.fibs.take j)) (fb.take (k + 1))) (.slice none 0 0) (.slice none 0 0) bv ∧ OB (ZC w c1 (X + 1) D) w2 bv (numF NT s.objs ([], []) (s.fibs.take j)) xb ∧ OM (fun q => D ≤ q ∧ ¬ bkb c1 (w.heap.size + 1 + 1) q) w2 v' (numM NT s.objs (metF NT s.objs ([], []) (s.fibs.take j)) (fb.take (k + 1))) (ys ++ [⟨fn, pc, .slice sva SLn svc⟩]) ∧ D ≤ w2.heap.size := by
                    have hS : ∀ q, (q = wr.heap.size ∨ lv.ownBlock = some q) → D ≤ q ∧ ¬ bkb c1 (w.heap.size + 1 + 1) q := fun q hq => by
                      rcases hq with rfl | hq
                      · refine ⟨by omega, fun e => ?_⟩
                        rcases unhide HR3 _ e with r | r
                        · have := (unhide HR).2.2.2 _ r; omega
                        · omega
                      · exact (unhide HE).2.2.rb q hq
                    rw [take_push (unhide HF), metM_push, numM_push]
                    refine ⟨(unhide HE).1.fr t2' (fun q hq => ⟨by have := (hS q hq).1; omega, (hS q hq).2⟩), (unhide HE).2.1.fr staysB t2' (fun q _ hi e => by have := (unhide HD).2 q hi; have := (hS q e).1; omega), t1', Nat.le_trans (by omega) t2'.size⟩
                  have HGn := hide hGn
                  obtain ⟨va, vc, ev, -, -⟩ := hr.shape
                  clear hr hg hat t1' t2' hGn HRo HNC HE HR HD HR3 HG1 HG2 HG3 x0 x1 x2 xf
                  go_wp2_with fail
                  go_roundg (gk - 1)
                  case measure => have := unhide hk; omega
                  case rel => exact ⟨k + 1, c1, v', _, by have := unhide hk; unfold Hid; omega, rfl, by go_num, HGn⟩
                · have hkF : FL = k := by have := unhide hk; omega
                  subst hkF
                  obtain ⟨g1, g2, g3, g4⟩ := unhide hG
                  rw [show fb.take FL = fb from List.take_of_length_le (by rw [unhide hFL]; exact Nat.le_refl _)] at g1 g3
                  obtain ⟨lva, lvc, elv, -, -⟩ := g3.row.shape
                  obtain ⟨bva, bvc, ebv, -, -⟩ := g2.row.shape
                  have hlenB : (numF NT s.objs ([], []) (s.fibs.take j)).length = j := by rw [numF_length]; simp; rw [unhide hNB]; omega
                  have hlenM : (numM NT s.objs (metF NT s.objs ([], []) (s.fibs.take j)) fb).length = FL := by rw [numM_length]; exact unhide hFL
                  rw [hlenM] at elv
                  rw [hlenB] at ebv
                  have x2 := (blk_cells g1.x).1 2
                  have xl := (blk_cells g1.x).2.2
                  simp at x2
                  have HG1 := hide g1
                  have HG2 := hide g2
                  have HG3 := hide g3
                  have HELV := hide elv
                  have HEBV := hide ebv
                  have HRo : Hid (∀ O, Ro (wr.alloc O) 1 bv j (flt enB xb)) := fun O => by
                    have := g2.row.fr ((Fr.refl (fun _ => False) wr).alloc O) (fun _ _ e => e)
                    rw [hlenB] at this
                    exact this
                  have HNC := hide (new_cells wr #[lv] 35)
                  rw [ebv] at x2
                  have hj3 : j ≤ 1000000000000 := by omega
                  have h1c : lv.oneCell' = true := by rw [elv]; rfl
                  clear g1 g2 g3 hG
                  subst elv
                  go_wp2_with (first | (at_builtin; refine appB rfl _ _ rfl _ j xb (by rw [unhide HEBV]; rfl) (unhide HRo _) ⟨wr.heap.size, 0, none⟩ 1 (Value.slice lva FL lvc, ys) rfl (unhide HNC) rfl hj3 ?_))
                  intro v' w2 hr hg hat
                  have hbx := (unhide HG1).a.b
                  obtain ⟨t1', t2'⟩ := OW.push' (Z := fun q => X + 1 ≤ q ∧ ¬ bkb c (w.heap.size + 1 + 1) q) (u := numM NT s.objs (metF NT s.objs ([], []) (s.fibs.take j)) fb) (x := (Value.slice lva FL lvc, ys)) staysB ((unhide HG2).mono (fun q _ hz => ⟨hz.1, hz.2.2⟩)) ((unhide HG3).mono (fun _ _ _ => trivial)) (fun q hq => ⟨⟨by have := ((unhide HG3).in hq).1.1; omega, ((unhide HG3).in hq).1.2⟩, ((unhide HG3).in hq).2, fun e => by have := ((unhide HG3).in hq).1.1; have := ((unhide HG2).in (.inl e)).1.2.1; omega⟩) (fun q hq y hy e => by have := ((unhide HG3).in hq).1.1; have := ((unhide HG2).in (.inr ⟨y, hy, e⟩)).1.2.1; omega) ((Below.refl _ _).alloc (Nat.le_refl _) (.cells #[.slice lva FL lvc] 35)) ⟨by rw [World.size_alloc]; omega, fun e => by have := (hbx.in e).2; rw [World.size_alloc] at this; omega⟩ hr (by rw [hlenB]) (by rw [unhide HEBV]; exact hg) (by rw [unhide HEBV]; simpa using hat)
                  have cx2 := (unhide HG1).fr t2' (fun q hq => ⟨by have := ((unhide HG2).rb q hq).1; omega, ((unhide HG2).rb q hq).2.2⟩)
                  have x9 := (blk_cells cx2.x).1 2
                  have xf := (blk_cells cx2.x).2.1 2
                  have xl2 := (blk_cells cx2.x).2.2
                  simp at x9
                  have HGn : Hid (CX w (cst [.slice ta NT tc, .slice oa NO oc, .slice (some ⟨ib, io, none⟩) NB bc, .int .i64 s.cur, .int .i64 s.steps, .int .i64 s.spent, .int .i64 s.read]) #[.slice ta NT tc, .slice oa NO oc, .slice (some ⟨ib, io, none⟩) NB bc, .int .i64 s.cur, .int .i64 s.steps, .int .i64 s.spent, .int .i64 s.read] NT NO X s c (w2.setCell ⟨X, 2, none⟩ v') (metF NT s.objs ([], []) (s.fibs.take (j + 1))) (.slice none 0 0) (.slice none 0 0) v' ∧ OB (fun k => X + 1 ≤ k ∧ ¬ bkb c (w.heap.size + 1 + 1) k) (w2.setCell ⟨X, 2, none⟩ v') v' (numF NT s.objs ([], []) (s.fibs.take (j + 1))) (xb ++ [(Value.slice lva FL lvc, ys)])) := by
                    obtain ⟨y1, y2⟩ := cx2.setB (v' := v')
                    rw [take_push (unhide HFB), metF_push, numF_push]
                    exact hide ⟨y1, t1'.fr staysB y2 (fun q _ hi e => by have := (t1'.in hi).1.1; omega)⟩
                  obtain ⟨va, vc, ev, -, -⟩ := hr.shape
                  subst ev
                  clear hr hg hat t1' t2' HRo HNC HG1 HG2 HG3 cx2 x2 hbx
                  go_wp2_with fail
                  go_roundg (gO - 1)
                  case measure => have := unhide hj; have := unhide hgO; omega
                  case rel => exact ⟨j + 1, c, _, _, by have := unhide hj; have := unhide hgO; unfold Hid; omega, by go_num, HGn⟩
            · have hjN : NB = j := by have := unhide hj; omega
              subst hjN
              obtain ⟨g1, g2⟩ := unhide hG
              rw [show s.fibs.take NB = s.fibs from List.take_of_length_le (by rw [unhide hNB]; exact Nat.le_refl _)] at g1 g2
              obtain ⟨D, hD⟩ : ∃ D, Hid (wr.heap.size = D) := ⟨_, hide rfl⟩
              have hXD : X < D := by rw [← unhide hD]; exact (Array.getElem?_eq_some_iff.1 g1.x).1
              obtain ⟨M, hM⟩ : ∃ M, Hid (metF NT s.objs ([], []) s.fibs = M) := ⟨_, hide rfl⟩
              obtain ⟨BF, hBF⟩ : ∃ B, Hid (numF NT s.objs ([], []) s.fibs = B) := ⟨_, hide rfl⟩
              rw [unhide hM] at g1
              rw [unhide hBF] at g2
              have HM : Hid (MOk NT s.objs.length M) := by rw [← unhide hM]; exact hide (MOk.fs s.fibs (unhide HM0))
              have H40 : Hid (CX w (cst [.slice ta NT tc, .slice oa NO oc, .slice ba NB bc, .int .i64 s.cur, .int .i64 s.steps, .int .i64 s.spent, .int .i64 s.read]) #[.slice ta NT tc, .slice oa NO oc, .slice ba NB bc, .int .i64 s.cur, .int .i64 s.steps, .int .i64 s.spent, .int .i64 s.read] NT NO X s c wr (wl NT s.objs M 0).1 (.slice none 0 0) (.slice none 0 0) bv ∧ OB (ZC w c (X + 1) D) wr bv BF xb ∧ OO (fun q => D ≤ q ∧ ¬ bkb c (w.heap.size + 1 + 1) q) wr (.slice none 0 0) (wl NT s.objs M 0).2 [] ∧ (wl NT s.objs M 0).2.length = 0 ∧ D ≤ wr.heap.size) :=
                hide ⟨by simpa [wl] using g1, g2.mono (fun q hq hz => ⟨hz.1, by rw [← unhide hD]; exact hq, hz.2⟩), by simpa [wl] using OW.nil _, by simp [wl], by rw [unhide hD]; exact Nat.le_refl _⟩
              clear hG g1 g2 HM0
              go_wp2_with fail
              go_loopg [11] NO (fun g t11 wr => ∃ (i : Nat) (c : Nat → Value) (ov : Value) (xo : List Obv), Hid (i + g = NO) ∧ t11 = .int .i64 (i : Int) ∧ Hid (CX w (cst [.slice ta NT tc, .slice oa NO oc, .slice ba NB bc, .int .i64 s.cur, .int .i64 s.steps, .int .i64 s.spent, .int .i64 s.read]) #[.slice ta NT tc, .slice oa NO oc, .slice ba NB bc, .int .i64 s.cur, .int .i64 s.steps, .int .i64 s.spent, .int .i64 s.read] NT NO X s c wr (wl NT s.objs M i).1 (.slice none 0 0) ov bv ∧ OB (ZC w c (X + 1) D) wr bv BF xb ∧ OO (fun q => D ≤ q ∧ ¬ bkb c (w.heap.size + 1 + 1) q) wr ov (wl NT s.objs M i).2 xo ∧ (wl NT s.objs M i).2.length = i ∧ D ≤ wr.heap.size))
              case atStart => exact ⟨0, c, _, [], by unfold Hid; omega, rfl, H40⟩
              case round =>
                clear H40
                obtain ⟨i, c, ov, xo, hi, rfl, hG⟩ := hrel
                have g1 := (unhide hG).1
                obtain ⟨OL, hOL⟩ : ∃ n, Hid ((wl NT s.objs M i).1.2.length = n) := ⟨_, hide rfl⟩
                have hMi := MOk.wl (unhide HM) i
                have hOLN : OL ≤ NO := by rw [← unhide hOL, ← unhide hNO]; exact pigeon _ _ hMi.d2 hMi.b2
                obtain ⟨a8, p8, e8, q8, q8'⟩ := g1.a.b.r2.shape
                rw [unhide hOL] at e8 q8
                have m8 : wr.cell? ⟨w.heap.size + 1 + 1, 8, none⟩ = some (.slice a8 OL p8) := by rw [g1.a.b.cell 8, ← e8]; rfl
                have mm1 := (blk_cells g1.a.p).1 1
                simp at mm1
                have hbl := (blk_cells g1.a.b.box).2.2
                have HE8 := hide e8
                unfold maxLen at q8'
                clear e8 hMi
                by_cases hlt4 : i < OL
                · obtain ⟨jx, hjx⟩ : ∃ x, (wl NT s.objs M i).1.2[i]? = some x := ⟨_, List.getElem?_eq_getElem (by rw [unhide hOL]; exact hlt4)⟩
                  have hjN : jx < NO := by rw [← unhide hNO]; exact (MOk.wl (unhide HM) i).b2 jx (List.mem_of_getElem? hjx)
                  obtain ⟨o, ho⟩ : ∃ o, s.objs[jx]? = some o := ⟨_, List.getElem?_eq_getElem (by rw [unhide hNO]; exact hjN)⟩
                  obtain ⟨b8, o8, p8', e8', -, -, hb8, k8⟩ := (Rx.of_ro g1.a.b.r2).elem zN hjx
                  rw [unhide HE8] at e8'
                  injection e8' with e81 e82 e83
                  subst e81
                  clear e82 e83
                  have k80 := k8 0 _ rfl
                  simp only [Nat.mul_one, Nat.add_zero] at k80
                  obtain ⟨gb, go, ia, ic, ka, kc, eg, hgb, y0, y1, y2, y3, y4, y5, hx, hy, j1, j2, j3, j4⟩ := (unhide HO).six ho
                  subst eg
                  have hbw := g1.a.bw
                  have z0 := (hbw.cell (p := ⟨gb, go + jx * 6, none⟩) hgb).trans y0
                  have z1 := (hbw.cell (p := ⟨gb, go + jx * 6 + 1, none⟩) hgb).trans y1
                  have z2 := (hbw.cell (p := ⟨gb, go + jx * 6 + 2, none⟩) hgb).trans y2
                  have z3 := (hbw.cell (p := ⟨gb, go + jx * 6 + 3, none⟩) hgb).trans y3
                  have z4 := (hbw.cell (p := ⟨gb, go + jx * 6 + 4, none⟩) hgb).trans y4
                  have z5 := (hbw.cell (p := ⟨gb, go + jx * 6 + 5, none⟩) hgb).trans y5
                  have hgbr := Nat.lt_of_lt_of_le hgb hbw.size
                  have hob := (unhide HS).os o (List.mem_of_getElem? ho)
                  have HC28 := hide (fun W (hb : Below wr.heap.size wr W) => bobject_any (w0 := w) (g1.below hb).a.b ((g1.a.c6 0 (by omega)).trans rfl) ((g1.a.c6 1 (by omega)).trans rfl) (unhide HO) (by have := MOk.wl (unhide HM) i; rw [unhide hNO] at this; exact this) n0 n1 (g1.below hb).a.bw (o := o) ⟨_, _, rfl, hx, hy⟩ hob.1 hob.2)
                  obtain ⟨NOb, hNOb⟩ : ∃ z, Hid (numO NT s.objs (wl NT s.objs M i).1 o = z) := ⟨_, hide rfl⟩
                  obtain ⟨MOb, hMOb⟩ : ∃ z, Hid (metO NT s.objs (wl NT s.objs M i).1 o = z) := ⟨_, hide rfl⟩
                  rw [unhide hNOb, unhide hMOb] at HC28
                  have HY := hide (And.intro y0 (And.intro y1 (And.intro y2 (And.intro y3 (And.intro y4 y5)))))
                  have i0 : (0 : Int) ≤ (i : Int) := by omega
                  have i1 : (i : Int) < (OL : Int) := by omega
                  have jj0 : (0 : Int) ≤ (jx : Int) := by omega
                  have jj1 : (jx : Int) < (NO : Int) := by omega
                  have HJ := hide hjx
                  have HOB := hide ho
                  have HG1 := hide g1
                  clear g1 hx hy y0 y1 y2 y3 y4 y5 k8 hbw hjx ho
                  go_wp2_with fail
                  have HSA : Hid (∀ W, Below wr.heap.size wr W → (W.cell? ⟨w.heap.size, 1, none⟩ = some (.slice (some ⟨gb, go, none⟩) NO oc) ∧ W.cell? ⟨gb, go + jx * 6, none⟩ = some (.int .i64 o.kind) ∧ W.cell? ⟨gb, go + jx * 6 + 1, none⟩ = some (.slice ia o.its.length ic) ∧ W.cell? ⟨gb, go + jx * 6 + 2, none⟩ = some (.slice ka o.keys.length kc) ∧ W.cell? ⟨gb, go + jx * 6 + 3, none⟩ = some (.int .i64 o.fn) ∧ W.cell? ⟨gb, go + jx * 6 + 4, none⟩ = some (.int .i64 o.cap) ∧ W.cell? ⟨gb, go + jx * 6 + 5, none⟩ = some (.bool o.shut))) := fun W hb => by
                    have hsz : w.heap.size < wr.heap.size := (Array.getElem?_eq_some_iff.1 (unhide HG1).a.p).1
                    exact ⟨(hb.cell (p := ⟨w.heap.size, 1, none⟩) hsz).trans mm1, (hb.cell (p := ⟨gb, _, none⟩) hgbr).trans z0, (hb.cell (p := ⟨gb, _, none⟩) hgbr).trans z1, (hb.cell (p := ⟨gb, _, none⟩) hgbr).trans z2, (hb.cell (p := ⟨gb, _, none⟩) hgbr).trans z3, (hb.cell (p := ⟨gb, _, none⟩) hgbr).trans z4, (hb.cell (p := ⟨gb, _, none⟩) hgbr).trans z5⟩
                  clear z0 z1 z2 z3 z4 z5
                  refine wp_region_held_drew (S := (fun w' => w'.cell? ⟨w.heap.size, 1, none⟩ = some (.slice (some ⟨gb, go, none⟩) NO oc) ∧ w'.cell? ⟨gb, go + jx * 6, none⟩ = some (.int .i64 o.kind) ∧ w'.cell? ⟨gb, go + jx * 6 + 1, none⟩ = some (.slice ia o.its.length ic) ∧ w'.cell? ⟨gb, go + jx * 6 + 2, none⟩ = some (.slice ka o.keys.length kc) ∧ w'.cell? ⟨gb, go + jx * 6 + 3, none⟩ = some (.int .i64 o.fn) ∧ w'.cell? ⟨gb, go + jx * 6 + 4, none⟩ = some (.int .i64 o.cap) ∧ w'.cell? ⟨gb, go + jx * 6 + 5, none⟩ = some (.bool o.shut))) (by kernel_rfl) ((unhide HSA) _ (bl_drew wr)) (fun hHeld => ?_)
                  have HH := hide hHeld
                  clear hHeld
                  obtain ⟨W0, hW0⟩ : ∃ W, Hid (wr.drew = W) := ⟨_, hide rfl⟩
                  rw [unhide hW0] at HH ⊢
                  have hbW0 : Below wr.heap.size wr W0 := by rw [← unhide hW0]; exact bl_drew wr
                  refine wpAnyH_take (i := 0) (oi := _) (v := .pointer (some ⟨w.heap.size + 1 + 1, 0, none⟩)) rfl (by kernel_rfl) (by kernel_rfl) (by kernel_rfl) (fun _ _ _ h => h) (Or.inl ⟨by rfl, (by intro w' hSw; go_simp)⟩) (unhide HH) ?_
                  refine wpAnyH_take (i := 1) (oi := _) (v := .pointer (some ⟨w.heap.size, 1, none⟩)) rfl (by kernel_rfl) (by kernel_rfl) (by kernel_rfl) (fun _ _ _ h => h) (Or.inl ⟨by rfl, (by intro w' hSw; go_simp)⟩) (unhide HH) ?_
                  go_simp
                  refine wpAnyH_take (i := 2) (oi := _) (v := .slice (some ⟨gb, go, none⟩) NO oc) rfl (by kernel_rfl) (by kernel_rfl) (by kernel_rfl) (fun _ _ _ h => h) (Or.inl ⟨by rfl, (by intro w' hSw; obtain ⟨s0, s1, s2, s3, s4, s5, s6⟩ := hSw; go_simp)⟩) (unhide HH) ?_
                  refine wpAnyH_take (i := 3) (oi := _) (v := .pointer (some ⟨w.heap.size + 1 + 1, 0, none⟩)) rfl (by kernel_rfl) (by kernel_rfl) (by kernel_rfl) (fun _ _ _ h => h) (Or.inl ⟨by rfl, (by intro w' hSw; go_simp)⟩) (unhide HH) ?_
                  go_simp
                  refine wpAnyH_take (i := 4) (oi := _) (v := .pointer (some ⟨w.heap.size + 1 + 1, 0, none⟩)) rfl (by kernel_rfl) (by kernel_rfl) (by kernel_rfl) (fun _ _ _ h => h) (Or.inl ⟨by rfl, (by intro w' hSw; go_simp)⟩) (unhide HH) ?_
                  go_simp
                  refine wpAnyH_take (i := 5) (oi := _) (v := .pointer (some ⟨w.heap.size + 1 + 1, 8, none⟩)) rfl (by kernel_rfl) (by kernel_rfl) (by kernel_rfl) (fun _ _ _ h => h) (Or.inl ⟨by rfl, (by intro w' hSw; go_simp)⟩) (unhide HH) ?_
                  refine wpAnyH_take (i := 7) (oi := _) (v := .int .i64 (i : Int)) rfl (by kernel_rfl) (by kernel_rfl) (by kernel_rfl) (fun _ _ _ h => h) (Or.inl ⟨by rfl, (by intro w' hSw; go_simp)⟩) (unhide HH) ?_
                  go_simp
                  have hsW0 : W0.heap.size = wr.heap.size := by rw [← unhide hW0]; rfl
                  have n8 := (hbW0.cell (p := ⟨_, 8, none⟩) hbl).trans m8
                  have n80 := (hbW0.cell (p := ⟨b8, o8 + i, none⟩) hb8).trans k80
                  refine wpAnyH_ready (rs := [6, 13]) (by kernel_rfl) (by simp) ?_
                  refine AllReadyH.cons (o := _) rfl (fun K hK => ?_) (AllReadyH.cons (o := _) rfl (fun K hK => ?_) AllReadyH.nil)
                  · go_simp
                    refine hK.out _ _ (unhide HH) (fun _ => ?_)
                    clear hK K
                    go_simp
                    refine wpAnyH_take (i := 8) (oi := _) (v := .pointer (some ⟨b8, o8 + i, none⟩)) rfl (by kernel_rfl) (by kernel_rfl) (by kernel_rfl) (fun _ _ _ h => h) (Or.inl ⟨by rfl, (by intro w' hSw; go_simp)⟩) (unhide HH) ?_
                    go_simp
                    refine wpAnyH_ready (rs := [9, 13]) (by kernel_rfl) (by simp) ?_
                    refine AllReadyH.cons (o := _) rfl (fun K hK => ?_) (AllReadyH.cons (o := _) rfl (fun K hK => ?_) AllReadyH.nil)
                    · go_simp
                      refine hK.out _ _ (unhide HH) (fun _ => ?_)
                      clear hK K
                      go_simp
                      refine wpAnyH_take (i := 10) (oi := _) (v := .pointer (some ⟨gb, go + jx * 6, none⟩)) rfl (by kernel_rfl) (by kernel_rfl) (by kernel_rfl) (fun _ _ _ h => h) (Or.inl ⟨by rfl, (by intro w' hSw; go_simp)⟩) (unhide HH) ?_
                      go_simp
                      refine wpAnyH_take (i := 11) (oi := _) (v := .agg #[.int .i64 o.kind, .slice ia o.its.length ic, .slice ka o.keys.length kc, .int .i64 o.fn, .int .i64 o.cap, .bool o.shut]) rfl (by kernel_rfl) (by kernel_rfl) (by kernel_rfl) (fun _ _ _ h => h) (Or.inl ⟨by rfl, (by intro w' hSw; obtain ⟨s0, s1, s2, s3, s4, s5, s6⟩ := hSw; go_simp)⟩) (unhide HH) ?_
                      go_simp
                      refine wpAnyH_ready (rs := [12, 13]) (by kernel_rfl) (by simp) ?_
                      refine AllReadyH.cons (o := _) rfl (fun K hK => ?_) (AllReadyH.cons (o := _) rfl (fun K hK => ?_) AllReadyH.nil)
                      · go_simp
                        go_at_call 28
                        refine ((unhide HC28) W0 hbW0).mono ?_
                        rintro e w1 ⟨x, rfl, hox, c1, r1, r2, r3, r4, r5⟩
                        have hCX1 := ((unhide HG1).below hbW0).call' (m' := MOb) r1 r2 r3 r4
                        have hS1 : w1.cell? ⟨w.heap.size, 1, none⟩ = some (.slice (some ⟨gb, go, none⟩) NO oc) ∧ w1.cell? ⟨gb, go + jx * 6, none⟩ = some (.int .i64 o.kind) ∧ w1.cell? ⟨gb, go + jx * 6 + 1, none⟩ = some (.slice ia o.its.length ic) ∧ w1.cell? ⟨gb, go + jx * 6 + 2, none⟩ = some (.slice ka o.keys.length kc) ∧ w1.cell? ⟨gb, go + jx * 6 + 3, none⟩ = some (.int .i64 o.fn) ∧ w1.cell? ⟨gb, go + jx * 6 + 4, none⟩ = some (.int .i64 o.cap) ∧ w1.cell? ⟨gb, go + jx * 6 + 5, none⟩ = some (.bool o.shut) := by
                          obtain ⟨y0, y1, y2, y3, y4, y5⟩ := unhide HY
                          have hq := hCX1.a.bw
                          exact ⟨by have := (blk_cells hCX1.a.p).1 1; simpa using this, (hq.cell (p := ⟨gb, _, none⟩) hgb).trans y0, (hq.cell (p := ⟨gb, _, none⟩) hgb).trans y1, (hq.cell (p := ⟨gb, _, none⟩) hgb).trans y2, (hq.cell (p := ⟨gb, _, none⟩) hgb).trans y3, (hq.cell (p := ⟨gb, _, none⟩) hgb).trans y4, (hq.cell (p := ⟨gb, _, none⟩) hgb).trans y5⟩
                        obtain ⟨va, vc, ya, yc, ex, _, _, _, _, _, _⟩ := hox.v.parts
                        subst ex
                        have HT1 := hide (And.intro hCX1 (And.intro hox (And.intro r2 (And.intro r3 r5))))
                        refine hK.out _ _ hS1 (fun _ => ?_)
                        clear hK K
                        have HS1 := hide hS1; clear hS1
                        clear hCX1 hox r1 r2 r3 r4 r5
                        go_simp
                        refine wpAnyH_ready (rs := [13]) (by kernel_rfl) (by simp) ?_
                        refine AllReadyH.cons (o := _) rfl (fun K hK => ?_) AllReadyH.nil
                        have hFa : Below w1.heap.size w1 (w1.alloc (.cells #[.int .i64 0, .slice none 0 0, .slice none 0 0, .int .i64 0, .int .i64 0, .bool false] 43)) := (Below.refl _ w1).alloc (Nat.le_refl _) _
                        have hCXa := (unhide HT1).1.below hFa
                        have hSa : (w1.alloc (.cells #[.int .i64 0, .slice none 0 0, .slice none 0 0, .int .i64 0, .int .i64 0, .bool false] 43)).cell? ⟨w.heap.size, 1, none⟩ = some (.slice (some ⟨gb, go, none⟩) NO oc) ∧ (w1.alloc (.cells #[.int .i64 0, .slice none 0 0, .slice none 0 0, .int .i64 0, .int .i64 0, .bool false] 43)).cell? ⟨gb, go + jx * 6, none⟩ = some (.int .i64 o.kind) ∧ (w1.alloc (.cells #[.int .i64 0, .slice none 0 0, .slice none 0 0, .int .i64 0, .int .i64 0, .bool false] 43)).cell? ⟨gb, go + jx * 6 + 1, none⟩ = some (.slice ia o.its.length ic) ∧ (w1.alloc (.cells #[.int .i64 0, .slice none 0 0, .slice none 0 0, .int .i64 0, .int .i64 0, .bool false] 43)).cell? ⟨gb, go + jx * 6 + 2, none⟩ = some (.slice ka o.keys.length kc) ∧ (w1.alloc (.cells #[.int .i64 0, .slice none 0 0, .slice none 0 0, .int .i64 0, .int .i64 0, .bool false] 43)).cell? ⟨gb, go + jx * 6 + 3, none⟩ = some (.int .i64 o.fn) ∧ (w1.alloc (.cells #[.int .i64 0, .slice none 0 0, .slice none 0 0, .int .i64 0, .int .i64 0, .bool false] 43)).cell? ⟨gb, go + jx * 6 + 4, none⟩ = some (.int .i64 o.cap) ∧ (w1.alloc (.cells #[.int .i64 0, .slice none 0 0, .slice none 0 0, .int .i64 0, .int .i64 0, .bool false] 43)).cell? ⟨gb, go + jx * 6 + 5, none⟩ = some (.bool o.shut) := by
                          obtain ⟨y0, y1, y2, y3, y4, y5⟩ := unhide HY
                          have hq := hCXa.a.bw
                          exact ⟨by have := (blk_cells hCXa.a.p).1 1; simpa using this, (hq.cell (p := ⟨gb, _, none⟩) hgb).trans y0, (hq.cell (p := ⟨gb, _, none⟩) hgb).trans y1, (hq.cell (p := ⟨gb, _, none⟩) hgb).trans y2, (hq.cell (p := ⟨gb, _, none⟩) hgb).trans y3, (hq.cell (p := ⟨gb, _, none⟩) hgb).trans y4, (hq.cell (p := ⟨gb, _, none⟩) hgb).trans y5⟩
                        have HSa := hide hSa
                        clear hSa hCXa
                        go_simp
                        refine hK.out _ _ (unhide HSa) (fun _ => ?_)
                        clear hK K HSa
                        go_simp
                        have hzw := heap_alloc_new w1 (.cells #[.int .i64 0, .slice none 0 0, .slice none 0 0, .int .i64 0, .int .i64 0, .bool false] 43)
                        obtain ⟨Wa, hWa⟩ : ∃ W, Hid (w1.alloc (.cells #[.int .i64 0, .slice none 0 0, .slice none 0 0, .int .i64 0, .int .i64 0, .bool false] 43) = W) := ⟨_, hide rfl⟩
                        rw [unhide hWa] at hFa hzw ⊢
                        refine wpAnyH_ready (rs := [14]) (by kernel_rfl) (by simp) ?_
                        refine AllReadyH.cons (o := _) rfl (fun K hK => ?_) AllReadyH.nil
                        have hltc : ∀ q, bkb c (w.heap.size + 1 + 1) q → q < wr.heap.size := fun q hq => ((unhide HG1).a.b.in hq).2
                        have hs1 := (unhide HT1).2.2.1.size

                        obtain ⟨xa, xf, xl⟩ := blk_cells hzw
                        have x0 := xa 0
                        have x1 := xa 1
                        have x2 := xa 2
                        have x3 := xa 3
                        have x4 := xa 4
                        have x5 := xa 5
                        have f0 := xf 0
                        have f1 := xf 1
                        have f2 := xf 2
                        have f3 := xf 3
                        have f4 := xf 4
                        have f5 := xf 5
                        simp at x0 x1 x2 x3 x4 x5
                        go_simp
                        obtain ⟨hz2, hF2'⟩ := six_set hzw (.int .i64 NOb.kind) (.slice va NOb.its.length vc) (.slice ya NOb.keys.length yc) (.int .i64 NOb.fn) (.int .i64 NOb.cap) (.bool NOb.shut)
                        obtain ⟨W2, hW2⟩ : ∃ W, Hid (((((((Wa.setCell ⟨w1.heap.size, 0, none⟩ (.int .i64 NOb.kind)).setCell ⟨w1.heap.size, 1, none⟩ (.slice va NOb.its.length vc)).setCell ⟨w1.heap.size, 2, none⟩ (.slice ya NOb.keys.length yc)).setCell ⟨w1.heap.size, 3, none⟩ (.int .i64 NOb.fn)).setCell ⟨w1.heap.size, 4, none⟩ (.int .i64 NOb.cap)).setCell ⟨w1.heap.size, 5, none⟩ (.bool NOb.shut)) = W) := ⟨_, hide rfl⟩
                        rw [unhide hW2] at hz2 hF2' ⊢
                        have hF2 : Fr (fun k => k = w1.heap.size) w1 W2 := (Fr.of_below (S := fun k => k = w1.heap.size) hFa).trans hF2'
                        clear hF2'
                        have hXw : X < wr.heap.size := (Array.getElem?_eq_some_iff.1 (unhide HG1).x).1
                        have hCX2 := (unhide HT1).1.fr hF2 (fun k hk => ⟨by omega, fun e => by
                          have h1 := ((unhide HT1).1.a.b.in e).2
                          rcases (unhide HT1).2.2.2.1 k e with r | r
                          · have := hltc _ r; omega
                          · omega⟩)
                        have hS2 : W2.cell? ⟨w.heap.size, 1, none⟩ = some (.slice (some ⟨gb, go, none⟩) NO oc) ∧ W2.cell? ⟨gb, go + jx * 6, none⟩ = some (.int .i64 o.kind) ∧ W2.cell? ⟨gb, go + jx * 6 + 1, none⟩ = some (.slice ia o.its.length ic) ∧ W2.cell? ⟨gb, go + jx * 6 + 2, none⟩ = some (.slice ka o.keys.length kc) ∧ W2.cell? ⟨gb, go + jx * 6 + 3, none⟩ = some (.int .i64 o.fn) ∧ W2.cell? ⟨gb, go + jx * 6 + 4, none⟩ = some (.int .i64 o.cap) ∧ W2.cell? ⟨gb, go + jx * 6 + 5, none⟩ = some (.bool o.shut) := by
                          obtain ⟨y0, y1, y2, y3, y4, y5⟩ := unhide HY
                          have hq := hCX2.a.bw
                          exact ⟨by have := (blk_cells hCX2.a.p).1 1; simpa using this, (hq.cell (p := ⟨gb, _, none⟩) hgb).trans y0, (hq.cell (p := ⟨gb, _, none⟩) hgb).trans y1, (hq.cell (p := ⟨gb, _, none⟩) hgb).trans y2, (hq.cell (p := ⟨gb, _, none⟩) hgb).trans y3, (hq.cell (p := ⟨gb, _, none⟩) hgb).trans y4, (hq.cell (p := ⟨gb, _, none⟩) hgb).trans y5⟩
                        refine hK.out _ _ hS2 (fun _ => ?_)
                        clear hK K hS2
                        have HL : Hid (CX w (cst [.slice ta NT tc, .slice (some ⟨gb, go, none⟩) NO oc, .slice ba NB bc, .int .i64 s.cur, .int .i64 s.steps, .int .i64 s.spent, .int .i64 s.read]) #[.slice ta NT tc, .slice (some ⟨gb, go, none⟩) NO oc, .slice ba NB bc, .int .i64 s.cur, .int .i64 s.steps, .int .i64 s.spent, .int .i64 s.read] NT NO X s c1 W2 MOb (.slice none 0 0) ov bv ∧ OB (ZC w c1 (X + 1) D) W2 bv BF xb ∧ OO (fun q => D ≤ q ∧ ¬ bkb c1 (w.heap.size + 1 + 1) q) W2 ov (wl NT s.objs M i).2 xo ∧ ObO W2 NOb ⟨NOb.kind, .slice va NOb.its.length vc, .slice ya NOb.keys.length yc, NOb.fn, NOb.cap, NOb.shut⟩ ∧ (∀ k, blO ⟨NOb.kind, .slice va NOb.its.length vc, .slice ya NOb.keys.length yc, NOb.fn, NOb.cap, NOb.shut⟩ k → wr.heap.size ≤ k ∧ k < W2.heap.size ∧ ¬ bkb c1 (w.heap.size + 1 + 1) k) ∧ wr.heap.size ≤ W2.heap.size) := by
                          obtain ⟨-, hox, r2, r3, r5⟩ := unhide HT1
                          have hF2s := hF2.size
                          exact hide ⟨hCX2, (((unhide hG).2.1.below staysB hbW0).book staysB r2 r3).fr staysB hF2 (fun q _ hi e => by have := ((unhide hG).2.1.in hi).1.2.1; have := (unhide hG).2.2.2.2; omega), (OW.book' staysO ((unhide hG).2.2.1.below staysO hbW0) r2 r3).fr staysO hF2 (fun q _ hi e => by have := ((unhide hG).2.2.1.in hi).2; omega), staysO _ _ _ _ _ hox hF2 (fun k hk e => by have := (r5 k hk).1; have := (r5 k hk).2.1; omega), fun k hk => ⟨by have := (r5 k hk).1; omega, by have := (r5 k hk).2.1; omega, (r5 k hk).2.2⟩, by omega⟩
                        go_simp
                        refine wpAnyH_done (by kernel_rfl) ?_ _
                        clear hCX2 hF2 x0 x1 x2 x3 x4 x5 f0 f1 f2 f3 f4 f5 xa xf xl HT1 hzw HH HSA HS1 n8 n80
                        have hD4 := (unhide hG).2.2.2.2
                        have hlenO := (unhide hG).2.2.2.1
                        have HOV : Hid (∀ q, (ov.ownBlock = some q ∨ ∃ y ∈ xo, blO y q) → q < wr.heap.size) := hide (fun q hq => ((unhide hG).2.2.1.in hq).2)
                        have HBV : Hid (∀ q, (bv.ownBlock = some q ∨ ∃ y ∈ xb, blB y q) → q < D) := hide (fun q hq => ((unhide hG).2.1.in hq).1.2.1)
                        obtain ⟨za, -, zl⟩ := blk_cells hz2
                        have z0 := za 0
                        have z1 := za 1
                        have z2 := za 2
                        have z3 := za 3
                        have z4 := za 4
                        have z5 := za 5
                        simp at z0 z1 z2 z3 z4 z5
                        have x1 := (blk_cells (unhide HL).1.x).1 1
                        have xl := (blk_cells (unhide HL).1.x).2.2
                        simp at x1
                        obtain ⟨ova, ovc, eov, -, -⟩ := (unhide HL).2.2.1.row.shape
                        rw [hlenO] at eov
                        rw [eov] at x1
                        have HEOV := hide eov
                        have HRo : Hid (∀ O, Ro (W2.alloc O) 6 ov i (flt enO xo)) := fun O => by
                          have := (unhide HL).2.2.1.row.fr ((Fr.refl (fun _ => False) W2).alloc O) (fun _ _ e => e)
                          rw [hlenO] at this
                          exact this
                        have HNC := hide (new_cells W2 #[.int .i64 NOb.kind, .slice va NOb.its.length vc, .slice ya NOb.keys.length yc, .int .i64 NOb.fn, .int .i64 NOb.cap, .bool NOb.shut] 43)
                        have hi3 : i ≤ 1000000000000 := by omega
                        clear eov za
                        go_wp2_with (first | (at_builtin; refine appO rfl _ _ rfl _ i xo (by rw [unhide HEOV]; rfl) (unhide HRo _) ⟨W2.heap.size, 0, none⟩ 1 ⟨NOb.kind, .slice va NOb.its.length vc, .slice ya NOb.keys.length yc, NOb.fn, NOb.cap, NOb.shut⟩ rfl (unhide HNC) rfl rfl hi3 ?_))
                        intro v' w3 hr hg hat
                        have hbx := (unhide HL).1.a.b
                        have hW2s := (unhide HL).2.2.2.2.2
                        obtain ⟨t1', t2'⟩ := OW.push' (Z := fun q => D ≤ q ∧ ¬ bkb c1 (w.heap.size + 1 + 1) q) (u := NOb) (x := (⟨NOb.kind, .slice va NOb.its.length vc, .slice ya NOb.keys.length yc, NOb.fn, NOb.cap, NOb.shut⟩ : Obv)) staysO (unhide HL).2.2.1 (unhide HL).2.2.2.1 (fun q hq => ⟨⟨by have := ((unhide HL).2.2.2.2.1 q hq).1; omega, ((unhide HL).2.2.2.2.1 q hq).2.2⟩, ((unhide HL).2.2.2.2.1 q hq).2.1, fun e => by have := ((unhide HL).2.2.2.2.1 q hq).1; have := unhide HOV q (.inl e); omega⟩) (fun q hq y hy e => by have := ((unhide HL).2.2.2.2.1 q hq).1; have := unhide HOV q (.inr ⟨y, hy, e⟩); omega) ((Below.refl _ _).alloc (Nat.le_refl _) (.cells #[.int .i64 NOb.kind, .slice va NOb.its.length vc, .slice ya NOb.keys.length yc, .int .i64 NOb.fn, .int .i64 NOb.cap, .bool NOb.shut] 43)) ⟨by rw [World.size_alloc]; omega, fun e => by have := (hbx.in e).2; rw [World.size_alloc] at this; omega⟩ hr (by rw [hlenO]) hg (by simpa using hat)
                        have cx3 := (unhide HL).1.fr t2' (fun q hq => ⟨by have := ((unhide HL).2.2.1.rb q hq).1; omega, ((unhide HL).2.2.1.rb q hq).2⟩)
                        have x9 := (blk_cells cx3.x).1 1
                        have xf9 := (blk_cells cx3.x).2.1 1
                        have xl9 := (blk_cells cx3.x).2.2
                        simp at x9
                        have HGn : Hid (CX w (cst [.slice ta NT tc, .slice (some ⟨gb, go, none⟩) NO oc, .slice ba NB bc, .int .i64 s.cur, .int .i64 s.steps, .int .i64 s.spent, .int .i64 s.read]) #[.slice ta NT tc, .slice (some ⟨gb, go, none⟩) NO oc, .slice ba NB bc, .int .i64 s.cur, .int .i64 s.steps, .int .i64 s.spent, .int .i64 s.read] NT NO X s c1 (w3.setCell ⟨X, 1, none⟩ v') (wl NT s.objs M (i + 1)).1 (.slice none 0 0) v' bv ∧ OB (ZC w c1 (X + 1) D) (w3.setCell ⟨X, 1, none⟩ v') bv BF xb ∧ OO (fun q => D ≤ q ∧ ¬ bkb c1 (w.heap.size + 1 + 1) q) (w3.setCell ⟨X, 1, none⟩ v') v' (wl NT s.objs M (i + 1)).2 (xo ++ [(⟨NOb.kind, .slice va NOb.its.length vc, .slice ya NOb.keys.length yc, NOb.fn, NOb.cap, NOb.shut⟩ : Obv)]) ∧ (wl NT s.objs M (i + 1)).2.length = (i + 1) ∧ D ≤ (w3.setCell ⟨X, 1, none⟩ v').heap.size) := by
                          obtain ⟨y1, y2⟩ := cx3.setO (v' := v')
                          rw [wl_some (unhide HJ) (unhide HOB), unhide hNOb, unhide hMOb]
                          have hs3 := t2'.size
                          have hs4 := y2.size
                          exact hide ⟨y1, ((unhide HL).2.1.fr staysB t2' (fun q _ hi e => by have := unhide HBV q hi; have := ((unhide HL).2.2.1.rb q e).1; omega)).fr staysB y2 (fun q _ hi e => by have := ((unhide HL).2.1.in hi).1.1; omega), t1'.fr staysO y2 (fun q _ hi e => by have := (t1'.in hi).1.1; omega), by simp [hlenO], by omega⟩
                        obtain ⟨nva, nvc, ev, -, -⟩ := hr.shape
                        subst ev
                        clear hr hg hat t1' t2' HRo HNC HL cx3 x1 hbx z0 z1 z2 z3 z4 z5
                        go_wp2_with fail
                        go_roundg (gk - 1)
                        case measure => have := unhide hi; omega
                        case rel => exact ⟨i + 1, c1, _, _, by have := unhide hi; unfold Hid; omega, by go_num, HGn⟩
                      · go_simp
                        refine hK.out _ _ ((unhide HSA) _ (hbW0.alloc (Nat.le_of_eq hsW0.symm) _)) (fun hh => ?_)
                        clear hK K
                        have HH1 := hide hh
                        clear hh HH
                        obtain ⟨W1, hW1⟩ : ∃ W, Hid (W0.alloc (.cells #[.int .i64 0, .slice none 0 0, .slice none 0 0, .int .i64 0, .int .i64 0, .bool false] 43) = W) := ⟨_, hide rfl⟩
                        rw [unhide hW1] at HH1 ⊢
                        have HH := HH1
                        clear HH1
                        have hbW1 : Below wr.heap.size wr W1 := by rw [← unhide hW1]; exact hbW0.alloc (Nat.le_of_eq hsW0.symm) _
                        have hzW1 : W1.heap[W0.heap.size]? = some (.cells #[.int .i64 0, .slice none 0 0, .slice none 0 0, .int .i64 0, .int .i64 0, .bool false] 43) := by rw [← unhide hW1]; exact heap_alloc_new W0 _
                        have hsW1 : W1.heap.size = W0.heap.size + 1 := by rw [← unhide hW1]; simp
                        clear n8 n80
                        have n8 := (hbW1.cell (p := ⟨_, 8, none⟩) hbl).trans m8
                        have n80 := (hbW1.cell (p := ⟨b8, o8 + i, none⟩) hb8).trans k80
                        refine wpAnyH_ready (rs := [12]) (by kernel_rfl) (by simp) ?_
                        refine AllReadyH.cons (o := _) rfl (fun K hK => ?_) AllReadyH.nil
                        go_simp
                        go_at_call 28
                        refine ((unhide HC28) W1 hbW1).mono ?_
                        rintro e w1 ⟨x, rfl, hox, c1, r1, r2, r3, r4, r5⟩
                        have hCX1 := ((unhide HG1).below hbW1).call' (m' := MOb) r1 r2 r3 r4
                        have hS1 : w1.cell? ⟨w.heap.size, 1, none⟩ = some (.slice (some ⟨gb, go, none⟩) NO oc) ∧ w1.cell? ⟨gb, go + jx * 6, none⟩ = some (.int .i64 o.kind) ∧ w1.cell? ⟨gb, go + jx * 6 + 1, none⟩ = some (.slice ia o.its.length ic) ∧ w1.cell? ⟨gb, go + jx * 6 + 2, none⟩ = some (.slice ka o.keys.length kc) ∧ w1.cell? ⟨gb, go + jx * 6 + 3, none⟩ = some (.int .i64 o.fn) ∧ w1.cell? ⟨gb, go + jx * 6 + 4, none⟩ = some (.int .i64 o.cap) ∧ w1.cell? ⟨gb, go + jx * 6 + 5, none⟩ = some (.bool o.shut) := by
                          obtain ⟨y0, y1, y2, y3, y4, y5⟩ := unhide HY
                          have hq := hCX1.a.bw
                          exact ⟨by have := (blk_cells hCX1.a.p).1 1; simpa using this, (hq.cell (p := ⟨gb, _, none⟩) hgb).trans y0, (hq.cell (p := ⟨gb, _, none⟩) hgb).trans y1, (hq.cell (p := ⟨gb, _, none⟩) hgb).trans y2, (hq.cell (p := ⟨gb, _, none⟩) hgb).trans y3, (hq.cell (p := ⟨gb, _, none⟩) hgb).trans y4, (hq.cell (p := ⟨gb, _, none⟩) hgb).trans y5⟩
                        obtain ⟨va, vc, ya, yc, ex, _, _, _, _, _, _⟩ := hox.v.parts
                        subst ex
                        have HT1 := hide (And.intro hCX1 (And.intro hox (And.intro r2 (And.intro r3 r5))))
                        refine hK.out _ _ hS1 (fun _ => ?_)
                        clear hK K
                        have HS1 := hide hS1; clear hS1
                        clear hCX1 hox r1 r2 r3 r4 r5
                        go_simp
                        refine wpAnyH_ready (rs := [14]) (by kernel_rfl) (by simp) ?_
                        refine AllReadyH.cons (o := _) rfl (fun K hK => ?_) AllReadyH.nil
                        have hltc : ∀ q, bkb c (w.heap.size + 1 + 1) q → q < wr.heap.size := fun q hq => ((unhide HG1).a.b.in hq).2
                        have hs1 := (unhide HT1).2.2.1.size
                        have hzw : w1.heap[wr.heap.size]? = some (.cells #[.int .i64 0, .slice none 0 0, .slice none 0 0, .int .i64 0, .int .i64 0, .bool false] 43) := ((unhide HT1).2.2.1.block wr.heap.size (by omega) (fun e => by have := hltc _ e; omega)).trans (by rw [← hsW0]; exact hzW1)
                        obtain ⟨xa, xf, xl⟩ := blk_cells hzw
                        have x0 := xa 0
                        have x1 := xa 1
                        have x2 := xa 2
                        have x3 := xa 3
                        have x4 := xa 4
                        have x5 := xa 5
                        have f0 := xf 0
                        have f1 := xf 1
                        have f2 := xf 2
                        have f3 := xf 3
                        have f4 := xf 4
                        have f5 := xf 5
                        simp at x0 x1 x2 x3 x4 x5
                        go_simp
                        obtain ⟨hz2, hF2'⟩ := six_set hzw (.int .i64 NOb.kind) (.slice va NOb.its.length vc) (.slice ya NOb.keys.length yc) (.int .i64 NOb.fn) (.int .i64 NOb.cap) (.bool NOb.shut)
                        obtain ⟨W2, hW2⟩ : ∃ W, Hid (((((((w1.setCell ⟨wr.heap.size, 0, none⟩ (.int .i64 NOb.kind)).setCell ⟨wr.heap.size, 1, none⟩ (.slice va NOb.its.length vc)).setCell ⟨wr.heap.size, 2, none⟩ (.slice ya NOb.keys.length yc)).setCell ⟨wr.heap.size, 3, none⟩ (.int .i64 NOb.fn)).setCell ⟨wr.heap.size, 4, none⟩ (.int .i64 NOb.cap)).setCell ⟨wr.heap.size, 5, none⟩ (.bool NOb.shut)) = W) := ⟨_, hide rfl⟩
                        rw [unhide hW2] at hz2 hF2' ⊢
                        have hF2 : Fr (fun k => k = wr.heap.size) w1 W2 := hF2'
                        clear hF2'
                        have hXw : X < wr.heap.size := (Array.getElem?_eq_some_iff.1 (unhide HG1).x).1
                        have hCX2 := (unhide HT1).1.fr hF2 (fun k hk => ⟨by omega, fun e => by
                          have h1 := ((unhide HT1).1.a.b.in e).2
                          rcases (unhide HT1).2.2.2.1 k e with r | r
                          · have := hltc _ r; omega
                          · omega⟩)
                        have hS2 : W2.cell? ⟨w.heap.size, 1, none⟩ = some (.slice (some ⟨gb, go, none⟩) NO oc) ∧ W2.cell? ⟨gb, go + jx * 6, none⟩ = some (.int .i64 o.kind) ∧ W2.cell? ⟨gb, go + jx * 6 + 1, none⟩ = some (.slice ia o.its.length ic) ∧ W2.cell? ⟨gb, go + jx * 6 + 2, none⟩ = some (.slice ka o.keys.length kc) ∧ W2.cell? ⟨gb, go + jx * 6 + 3, none⟩ = some (.int .i64 o.fn) ∧ W2.cell? ⟨gb, go + jx * 6 + 4, none⟩ = some (.int .i64 o.cap) ∧ W2.cell? ⟨gb, go + jx * 6 + 5, none⟩ = some (.bool o.shut) := by
                          obtain ⟨y0, y1, y2, y3, y4, y5⟩ := unhide HY
                          have hq := hCX2.a.bw
                          exact ⟨by have := (blk_cells hCX2.a.p).1 1; simpa using this, (hq.cell (p := ⟨gb, _, none⟩) hgb).trans y0, (hq.cell (p := ⟨gb, _, none⟩) hgb).trans y1, (hq.cell (p := ⟨gb, _, none⟩) hgb).trans y2, (hq.cell (p := ⟨gb, _, none⟩) hgb).trans y3, (hq.cell (p := ⟨gb, _, none⟩) hgb).trans y4, (hq.cell (p := ⟨gb, _, none⟩) hgb).trans y5⟩
                        refine hK.out _ _ hS2 (fun _ => ?_)
                        clear hK K hS2
                        have HL : Hid (CX w (cst [.slice ta NT tc, .slice (some ⟨gb, go, none⟩) NO oc, .slice ba NB bc, .int .i64 s.cur, .int .i64 s.steps, .int .i64 s.spent, .int .i64 s.read]) #[.slice ta NT tc, .slice (some ⟨gb, go, none⟩) NO oc, .slice ba NB bc, .int .i64 s.cur, .int .i64 s.steps, .int .i64 s.spent, .int .i64 s.read] NT NO X s c1 W2 MOb (.slice none 0 0) ov bv ∧ OB (ZC w c1 (X + 1) D) W2 bv BF xb ∧ OO (fun q => D ≤ q ∧ ¬ bkb c1 (w.heap.size + 1 + 1) q) W2 ov (wl NT s.objs M i).2 xo ∧ ObO W2 NOb ⟨NOb.kind, .slice va NOb.its.length vc, .slice ya NOb.keys.length yc, NOb.fn, NOb.cap, NOb.shut⟩ ∧ (∀ k, blO ⟨NOb.kind, .slice va NOb.its.length vc, .slice ya NOb.keys.length yc, NOb.fn, NOb.cap, NOb.shut⟩ k → wr.heap.size ≤ k ∧ k < W2.heap.size ∧ ¬ bkb c1 (w.heap.size + 1 + 1) k) ∧ wr.heap.size ≤ W2.heap.size) := by
                          obtain ⟨-, hox, r2, r3, r5⟩ := unhide HT1
                          have hF2s := hF2.size
                          exact hide ⟨hCX2, (((unhide hG).2.1.below staysB hbW1).book staysB r2 r3).fr staysB hF2 (fun q _ hi e => by have := ((unhide hG).2.1.in hi).1.2.1; have := (unhide hG).2.2.2.2; omega), (OW.book' staysO ((unhide hG).2.2.1.below staysO hbW1) r2 r3).fr staysO hF2 (fun q _ hi e => by have := ((unhide hG).2.2.1.in hi).2; omega), staysO _ _ _ _ _ hox hF2 (fun k hk e => by have := (r5 k hk).1; have := (r5 k hk).2.1; omega), fun k hk => ⟨by have := (r5 k hk).1; omega, by have := (r5 k hk).2.1; omega, (r5 k hk).2.2⟩, by omega⟩
                        go_simp
                        refine wpAnyH_done (by kernel_rfl) ?_ _
                        clear hCX2 hF2 x0 x1 x2 x3 x4 x5 f0 f1 f2 f3 f4 f5 xa xf xl HT1 hzw HH HSA HS1 n8 n80
                        have hD4 := (unhide hG).2.2.2.2
                        have hlenO := (unhide hG).2.2.2.1
                        have HOV : Hid (∀ q, (ov.ownBlock = some q ∨ ∃ y ∈ xo, blO y q) → q < wr.heap.size) := hide (fun q hq => ((unhide hG).2.2.1.in hq).2)
                        have HBV : Hid (∀ q, (bv.ownBlock = some q ∨ ∃ y ∈ xb, blB y q) → q < D) := hide (fun q hq => ((unhide hG).2.1.in hq).1.2.1)
                        obtain ⟨za, -, zl⟩ := blk_cells hz2
                        have z0 := za 0
                        have z1 := za 1
                        have z2 := za 2
                        have z3 := za 3
                        have z4 := za 4
                        have z5 := za 5
                        simp at z0 z1 z2 z3 z4 z5
                        have x1 := (blk_cells (unhide HL).1.x).1 1
                        have xl := (blk_cells (unhide HL).1.x).2.2
                        simp at x1
                        obtain ⟨ova, ovc, eov, -, -⟩ := (unhide HL).2.2.1.row.shape
                        rw [hlenO] at eov
                        rw [eov] at x1
                        have HEOV := hide eov
                        have HRo : Hid (∀ O, Ro (W2.alloc O) 6 ov i (flt enO xo)) := fun O => by
                          have := (unhide HL).2.2.1.row.fr ((Fr.refl (fun _ => False) W2).alloc O) (fun _ _ e => e)
                          rw [hlenO] at this
                          exact this
                        have HNC := hide (new_cells W2 #[.int .i64 NOb.kind, .slice va NOb.its.length vc, .slice ya NOb.keys.length yc, .int .i64 NOb.fn, .int .i64 NOb.cap, .bool NOb.shut] 43)
                        have hi3 : i ≤ 1000000000000 := by omega
                        clear eov za
                        go_wp2_with (first | (at_builtin; refine appO rfl _ _ rfl _ i xo (by rw [unhide HEOV]; rfl) (unhide HRo _) ⟨W2.heap.size, 0, none⟩ 1 ⟨NOb.kind, .slice va NOb.its.length vc, .slice ya NOb.keys.length yc, NOb.fn, NOb.cap, NOb.shut⟩ rfl (unhide HNC) rfl rfl hi3 ?_))
                        intro v' w3 hr hg hat
                        have hbx := (unhide HL).1.a.b
                        have hW2s := (unhide HL).2.2.2.2.2
                        obtain ⟨t1', t2'⟩ := OW.push' (Z := fun q => D ≤ q ∧ ¬ bkb c1 (w.heap.size + 1 + 1) q) (u := NOb) (x := (⟨NOb.kind, .slice va NOb.its.length vc, .slice ya NOb.keys.length yc, NOb.fn, NOb.cap, NOb.shut⟩ : Obv)) staysO (unhide HL).2.2.1 (unhide HL).2.2.2.1 (fun q hq => ⟨⟨by have := ((unhide HL).2.2.2.2.1 q hq).1; omega, ((unhide HL).2.2.2.2.1 q hq).2.2⟩, ((unhide HL).2.2.2.2.1 q hq).2.1, fun e => by have := ((unhide HL).2.2.2.2.1 q hq).1; have := unhide HOV q (.inl e); omega⟩) (fun q hq y hy e => by have := ((unhide HL).2.2.2.2.1 q hq).1; have := unhide HOV q (.inr ⟨y, hy, e⟩); omega) ((Below.refl _ _).alloc (Nat.le_refl _) (.cells #[.int .i64 NOb.kind, .slice va NOb.its.length vc, .slice ya NOb.keys.length yc, .int .i64 NOb.fn, .int .i64 NOb.cap, .bool NOb.shut] 43)) ⟨by rw [World.size_alloc]; omega, fun e => by have := (hbx.in e).2; rw [World.size_alloc] at this; omega⟩ hr (by rw [hlenO]) hg (by simpa using hat)
                        have cx3 := (unhide HL).1.fr t2' (fun q hq => ⟨by have := ((unhide HL).2.2.1.rb q hq).1; omega, ((unhide HL).2.2.1.rb q hq).2⟩)
                        have x9 := (blk_cells cx3.x).1 1
                        have xf9 := (blk_cells cx3.x).2.1 1
                        have xl9 := (blk_cells cx3.x).2.2
                        simp at x9
                        have HGn : Hid (CX w (cst [.slice ta NT tc, .slice (some ⟨gb, go, none⟩) NO oc, .slice ba NB bc, .int .i64 s.cur, .int .i64 s.steps, .int .i64 s.spent, .int .i64 s.read]) #[.slice ta NT tc, .slice (some ⟨gb, go, none⟩) NO oc, .slice ba NB bc, .int .i64 s.cur, .int .i64 s.steps, .int .i64 s.spent, .int .i64 s.read] NT NO X s c1 (w3.setCell ⟨X, 1, none⟩ v') (wl NT s.objs M (i + 1)).1 (.slice none 0 0) v' bv ∧ OB (ZC w c1 (X + 1) D) (w3.setCell ⟨X, 1, none⟩ v') bv BF xb ∧ OO (fun q => D ≤ q ∧ ¬ bkb c1 (w.heap.size + 1 + 1) q) (w3.setCell ⟨X, 1, none⟩ v') v' (wl NT s.objs M (i + 1)).2 (xo ++ [(⟨NOb.kind, .slice va NOb.its.length vc, .slice ya NOb.keys.length yc, NOb.fn, NOb.cap, NOb.shut⟩ : Obv)]) ∧ (wl NT s.objs M (i + 1)).2.length = (i + 1) ∧ D ≤ (w3.setCell ⟨X, 1, none⟩ v').heap.size) := by
                          obtain ⟨y1, y2⟩ := cx3.setO (v' := v')
                          rw [wl_some (unhide HJ) (unhide HOB), unhide hNOb, unhide hMOb]
                          have hs3 := t2'.size
                          have hs4 := y2.size
                          exact hide ⟨y1, ((unhide HL).2.1.fr staysB t2' (fun q _ hi e => by have := unhide HBV q hi; have := ((unhide HL).2.2.1.rb q e).1; omega)).fr staysB y2 (fun q _ hi e => by have := ((unhide HL).2.1.in hi).1.1; omega), t1'.fr staysO y2 (fun q _ hi e => by have := (t1'.in hi).1.1; omega), by simp [hlenO], by omega⟩
                        obtain ⟨nva, nvc, ev, -, -⟩ := hr.shape
                        subst ev
                        clear hr hg hat t1' t2' HRo HNC HL cx3 x1 hbx z0 z1 z2 z3 z4 z5
                        go_wp2_with fail
                        go_roundg (gk - 1)
                        case measure => have := unhide hi; omega
                        case rel => exact ⟨i + 1, c1, _, _, by have := unhide hi; unfold Hid; omega, by go_num, HGn⟩
                    · go_simp
                      refine hK.out _ _ ((unhide HSA) _ (hbW0.alloc (Nat.le_of_eq hsW0.symm) _)) (fun hh => ?_)
                      clear hK K
                      have HH1 := hide hh
                      clear hh HH
                      obtain ⟨W1, hW1⟩ : ∃ W, Hid (W0.alloc (.cells #[.int .i64 0, .slice none 0 0, .slice none 0 0, .int .i64 0, .int .i64 0, .bool false] 43) = W) := ⟨_, hide rfl⟩
                      rw [unhide hW1] at HH1 ⊢
                      have HH := HH1
                      clear HH1
                      have hbW1 : Below wr.heap.size wr W1 := by rw [← unhide hW1]; exact hbW0.alloc (Nat.le_of_eq hsW0.symm) _
                      have hzW1 : W1.heap[W0.heap.size]? = some (.cells #[.int .i64 0, .slice none 0 0, .slice none 0 0, .int .i64 0, .int .i64 0, .bool false] 43) := by rw [← unhide hW1]; exact heap_alloc_new W0 _
                      have hsW1 : W1.heap.size = W0.heap.size + 1 := by rw [← unhide hW1]; simp
                      clear n8 n80
                      have n8 := (hbW1.cell (p := ⟨_, 8, none⟩) hbl).trans m8
                      have n80 := (hbW1.cell (p := ⟨b8, o8 + i, none⟩) hb8).trans k80
                      refine wpAnyH_ready (rs := [9]) (by kernel_rfl) (by simp) ?_
                      refine AllReadyH.cons (o := _) rfl (fun K hK => ?_) AllReadyH.nil
                      go_simp
                      refine hK.out _ _ (unhide HH) (fun _ => ?_)
                      clear hK K
                      go_simp
                      refine wpAnyH_take (i := 10) (oi := _) (v := .pointer (some ⟨gb, go + jx * 6, none⟩)) rfl (by kernel_rfl) (by kernel_rfl) (by kernel_rfl) (fun _ _ _ h => h) (Or.inl ⟨by rfl, (by intro w' hSw; go_simp)⟩) (unhide HH) ?_
                      go_simp
                      refine wpAnyH_take (i := 11) (oi := _) (v := .agg #[.int .i64 o.kind, .slice ia o.its.length ic, .slice ka o.keys.length kc, .int .i64 o.fn, .int .i64 o.cap, .bool o.shut]) rfl (by kernel_rfl) (by kernel_rfl) (by kernel_rfl) (fun _ _ _ h => h) (Or.inl ⟨by rfl, (by intro w' hSw; obtain ⟨s0, s1, s2, s3, s4, s5, s6⟩ := hSw; go_simp)⟩) (unhide HH) ?_
                      go_simp
                      refine wpAnyH_ready (rs := [12]) (by kernel_rfl) (by simp) ?_
                      refine AllReadyH.cons (o := _) rfl (fun K hK => ?_) AllReadyH.nil
                      go_simp
                      go_at_call 28
                      refine ((unhide HC28) W1 hbW1).mono ?_
                      rintro e w1 ⟨x, rfl, hox, c1, r1, r2, r3, r4, r5⟩
                      have hCX1 := ((unhide HG1).below hbW1).call' (m' := MOb) r1 r2 r3 r4
                      have hS1 : w1.cell? ⟨w.heap.size, 1, none⟩ = some (.slice (some ⟨gb, go, none⟩) NO oc) ∧ w1.cell? ⟨gb, go + jx * 6, none⟩ = some (.int .i64 o.kind) ∧ w1.cell? ⟨gb, go + jx * 6 + 1, none⟩ = some (.slice ia o.its.length ic) ∧ w1.cell? ⟨gb, go + jx * 6 + 2, none⟩ = some (.slice ka o.keys.length kc) ∧ w1.cell? ⟨gb, go + jx * 6 + 3, none⟩ = some (.int .i64 o.fn) ∧ w1.cell? ⟨gb, go + jx * 6 + 4, none⟩ = some (.int .i64 o.cap) ∧ w1.cell? ⟨gb, go + jx * 6 + 5, none⟩ = some (.bool o.shut) := by
                        obtain ⟨y0, y1, y2, y3, y4, y5⟩ := unhide HY
                        have hq := hCX1.a.bw
                        exact ⟨by have := (blk_cells hCX1.a.p).1 1; simpa using this, (hq.cell (p := ⟨gb, _, none⟩) hgb).trans y0, (hq.cell (p := ⟨gb, _, none⟩) hgb).trans y1, (hq.cell (p := ⟨gb, _, none⟩) hgb).trans y2, (hq.cell (p := ⟨gb, _, none⟩) hgb).trans y3, (hq.cell (p := ⟨gb, _, none⟩) hgb).trans y4, (hq.cell (p := ⟨gb, _, none⟩) hgb).trans y5⟩
                      obtain ⟨va, vc, ya, yc, ex, _, _, _, _, _, _⟩ := hox.v.parts
                      subst ex
                      have HT1 := hide (And.intro hCX1 (And.intro hox (And.intro r2 (And.intro r3 r5))))
                      refine hK.out _ _ hS1 (fun _ => ?_)
                      clear hK K
                      have HS1 := hide hS1; clear hS1
                      clear hCX1 hox r1 r2 r3 r4 r5
                      go_simp
                      refine wpAnyH_ready (rs := [14]) (by kernel_rfl) (by simp) ?_
                      refine AllReadyH.cons (o := _) rfl (fun K hK => ?_) AllReadyH.nil
                      have hltc : ∀ q, bkb c (w.heap.size + 1 + 1) q → q < wr.heap.size := fun q hq => ((unhide HG1).a.b.in hq).2
                      have hs1 := (unhide HT1).2.2.1.size
                      have hzw : w1.heap[wr.heap.size]? = some (.cells #[.int .i64 0, .slice none 0 0, .slice none 0 0, .int .i64 0, .int .i64 0, .bool false] 43) := ((unhide HT1).2.2.1.block wr.heap.size (by omega) (fun e => by have := hltc _ e; omega)).trans (by rw [← hsW0]; exact hzW1)
                      obtain ⟨xa, xf, xl⟩ := blk_cells hzw
                      have x0 := xa 0
                      have x1 := xa 1
                      have x2 := xa 2
                      have x3 := xa 3
                      have x4 := xa 4
                      have x5 := xa 5
                      have f0 := xf 0
                      have f1 := xf 1
                      have f2 := xf 2
                      have f3 := xf 3
                      have f4 := xf 4
                      have f5 := xf 5
                      simp at x0 x1 x2 x3 x4 x5
                      go_simp
                      obtain ⟨hz2, hF2'⟩ := six_set hzw (.int .i64 NOb.kind) (.slice va NOb.its.length vc) (.slice ya NOb.keys.length yc) (.int .i64 NOb.fn) (.int .i64 NOb.cap) (.bool NOb.shut)
                      obtain ⟨W2, hW2⟩ : ∃ W, Hid (((((((w1.setCell ⟨wr.heap.size, 0, none⟩ (.int .i64 NOb.kind)).setCell ⟨wr.heap.size, 1, none⟩ (.slice va NOb.its.length vc)).setCell ⟨wr.heap.size, 2, none⟩ (.slice ya NOb.keys.length yc)).setCell ⟨wr.heap.size, 3, none⟩ (.int .i64 NOb.fn)).setCell ⟨wr.heap.size, 4, none⟩ (.int .i64 NOb.cap)).setCell ⟨wr.heap.size, 5, none⟩ (.bool NOb.shut)) = W) := ⟨_, hide rfl⟩
                      rw [unhide hW2] at hz2 hF2' ⊢
                      have hF2 : Fr (fun k => k = wr.heap.size) w1 W2 := hF2'
                      clear hF2'
                      have hXw : X < wr.heap.size := (Array.getElem?_eq_some_iff.1 (unhide HG1).x).1
                      have hCX2 := (unhide HT1).1.fr hF2 (fun k hk => ⟨by omega, fun e => by
                        have h1 := ((unhide HT1).1.a.b.in e).2
                        rcases (unhide HT1).2.2.2.1 k e with r | r
                        · have := hltc _ r; omega
                        · omega⟩)
                      have hS2 : W2.cell? ⟨w.heap.size, 1, none⟩ = some (.slice (some ⟨gb, go, none⟩) NO oc) ∧ W2.cell? ⟨gb, go + jx * 6, none⟩ = some (.int .i64 o.kind) ∧ W2.cell? ⟨gb, go + jx * 6 + 1, none⟩ = some (.slice ia o.its.length ic) ∧ W2.cell? ⟨gb, go + jx * 6 + 2, none⟩ = some (.slice ka o.keys.length kc) ∧ W2.cell? ⟨gb, go + jx * 6 + 3, none⟩ = some (.int .i64 o.fn) ∧ W2.cell? ⟨gb, go + jx * 6 + 4, none⟩ = some (.int .i64 o.cap) ∧ W2.cell? ⟨gb, go + jx * 6 + 5, none⟩ = some (.bool o.shut) := by
                        obtain ⟨y0, y1, y2, y3, y4, y5⟩ := unhide HY
                        have hq := hCX2.a.bw
                        exact ⟨by have := (blk_cells hCX2.a.p).1 1; simpa using this, (hq.cell (p := ⟨gb, _, none⟩) hgb).trans y0, (hq.cell (p := ⟨gb, _, none⟩) hgb).trans y1, (hq.cell (p := ⟨gb, _, none⟩) hgb).trans y2, (hq.cell (p := ⟨gb, _, none⟩) hgb).trans y3, (hq.cell (p := ⟨gb, _, none⟩) hgb).trans y4, (hq.cell (p := ⟨gb, _, none⟩) hgb).trans y5⟩
                      refine hK.out _ _ hS2 (fun _ => ?_)
                      clear hK K hS2
                      have HL : Hid (CX w (cst [.slice ta NT tc, .slice (some ⟨gb, go, none⟩) NO oc, .slice ba NB bc, .int .i64 s.cur, .int .i64 s.steps, .int .i64 s.spent, .int .i64 s.read]) #[.slice ta NT tc, .slice (some ⟨gb, go, none⟩) NO oc, .slice ba NB bc, .int .i64 s.cur, .int .i64 s.steps, .int .i64 s.spent, .int .i64 s.read] NT NO X s c1 W2 MOb (.slice none 0 0) ov bv ∧ OB (ZC w c1 (X + 1) D) W2 bv BF xb ∧ OO (fun q => D ≤ q ∧ ¬ bkb c1 (w.heap.size + 1 + 1) q) W2 ov (wl NT s.objs M i).2 xo ∧ ObO W2 NOb ⟨NOb.kind, .slice va NOb.its.length vc, .slice ya NOb.keys.length yc, NOb.fn, NOb.cap, NOb.shut⟩ ∧ (∀ k, blO ⟨NOb.kind, .slice va NOb.its.length vc, .slice ya NOb.keys.length yc, NOb.fn, NOb.cap, NOb.shut⟩ k → wr.heap.size ≤ k ∧ k < W2.heap.size ∧ ¬ bkb c1 (w.heap.size + 1 + 1) k) ∧ wr.heap.size ≤ W2.heap.size) := by
                        obtain ⟨-, hox, r2, r3, r5⟩ := unhide HT1
                        have hF2s := hF2.size
                        exact hide ⟨hCX2, (((unhide hG).2.1.below staysB hbW1).book staysB r2 r3).fr staysB hF2 (fun q _ hi e => by have := ((unhide hG).2.1.in hi).1.2.1; have := (unhide hG).2.2.2.2; omega), (OW.book' staysO ((unhide hG).2.2.1.below staysO hbW1) r2 r3).fr staysO hF2 (fun q _ hi e => by have := ((unhide hG).2.2.1.in hi).2; omega), staysO _ _ _ _ _ hox hF2 (fun k hk e => by have := (r5 k hk).1; have := (r5 k hk).2.1; omega), fun k hk => ⟨by have := (r5 k hk).1; omega, by have := (r5 k hk).2.1; omega, (r5 k hk).2.2⟩, by omega⟩
                      go_simp
                      refine wpAnyH_done (by kernel_rfl) ?_ _
                      clear hCX2 hF2 x0 x1 x2 x3 x4 x5 f0 f1 f2 f3 f4 f5 xa xf xl HT1 hzw HH HSA HS1 n8 n80
                      have hD4 := (unhide hG).2.2.2.2
                      have hlenO := (unhide hG).2.2.2.1
                      have HOV : Hid (∀ q, (ov.ownBlock = some q ∨ ∃ y ∈ xo, blO y q) → q < wr.heap.size) := hide (fun q hq => ((unhide hG).2.2.1.in hq).2)
                      have HBV : Hid (∀ q, (bv.ownBlock = some q ∨ ∃ y ∈ xb, blB y q) → q < D) := hide (fun q hq => ((unhide hG).2.1.in hq).1.2.1)
                      obtain ⟨za, -, zl⟩ := blk_cells hz2
                      have z0 := za 0
                      have z1 := za 1
                      have z2 := za 2
                      have z3 := za 3
                      have z4 := za 4
                      have z5 := za 5
                      simp at z0 z1 z2 z3 z4 z5
                      have x1 := (blk_cells (unhide HL).1.x).1 1
                      have xl := (blk_cells (unhide HL).1.x).2.2
                      simp at x1
                      obtain ⟨ova, ovc, eov, -, -⟩ := (unhide HL).2.2.1.row.shape
                      rw [hlenO] at eov
                      rw [eov] at x1
                      have HEOV := hide eov
                      have HRo : Hid (∀ O, Ro (W2.alloc O) 6 ov i (flt enO xo)) := fun O => by
                        have := (unhide HL).2.2.1.row.fr ((Fr.refl (fun _ => False) W2).alloc O) (fun _ _ e => e)
                        rw [hlenO] at this
                        exact this
                      have HNC := hide (new_cells W2 #[.int .i64 NOb.kind, .slice va NOb.its.length vc, .slice ya NOb.keys.length yc, .int .i64 NOb.fn, .int .i64 NOb.cap, .bool NOb.shut] 43)
                      have hi3 : i ≤ 1000000000000 := by omega
                      clear eov za
                      go_wp2_with (first | (at_builtin; refine appO rfl _ _ rfl _ i xo (by rw [unhide HEOV]; rfl) (unhide HRo _) ⟨W2.heap.size, 0, none⟩ 1 ⟨NOb.kind, .slice va NOb.its.length vc, .slice ya NOb.keys.length yc, NOb.fn, NOb.cap, NOb.shut⟩ rfl (unhide HNC) rfl rfl hi3 ?_))
                      intro v' w3 hr hg hat
                      have hbx := (unhide HL).1.a.b
                      have hW2s := (unhide HL).2.2.2.2.2
                      obtain ⟨t1', t2'⟩ := OW.push' (Z := fun q => D ≤ q ∧ ¬ bkb c1 (w.heap.size + 1 + 1) q) (u := NOb) (x := (⟨NOb.kind, .slice va NOb.its.length vc, .slice ya NOb.keys.length yc, NOb.fn, NOb.cap, NOb.shut⟩ : Obv)) staysO (unhide HL).2.2.1 (unhide HL).2.2.2.1 (fun q hq => ⟨⟨by have := ((unhide HL).2.2.2.2.1 q hq).1; omega, ((unhide HL).2.2.2.2.1 q hq).2.2⟩, ((unhide HL).2.2.2.2.1 q hq).2.1, fun e => by have := ((unhide HL).2.2.2.2.1 q hq).1; have := unhide HOV q (.inl e); omega⟩) (fun q hq y hy e => by have := ((unhide HL).2.2.2.2.1 q hq).1; have := unhide HOV q (.inr ⟨y, hy, e⟩); omega) ((Below.refl _ _).alloc (Nat.le_refl _) (.cells #[.int .i64 NOb.kind, .slice va NOb.its.length vc, .slice ya NOb.keys.length yc, .int .i64 NOb.fn, .int .i64 NOb.cap, .bool NOb.shut] 43)) ⟨by rw [World.size_alloc]; omega, fun e => by have := (hbx.in e).2; rw [World.size_alloc] at this; omega⟩ hr (by rw [hlenO]) hg (by simpa using hat)
                      have cx3 := (unhide HL).1.fr t2' (fun q hq => ⟨by have := ((unhide HL).2.2.1.rb q hq).1; omega, ((unhide HL).2.2.1.rb q hq).2⟩)
                      have x9 := (blk_cells cx3.x).1 1
                      have xf9 := (blk_cells cx3.x).2.1 1
                      have xl9 := (blk_cells cx3.x).2.2
                      simp at x9
                      have HGn : Hid (CX w (cst [.slice ta NT tc, .slice (some ⟨gb, go, none⟩) NO oc, .slice ba NB bc, .int .i64 s.cur, .int .i64 s.steps, .int .i64 s.spent, .int .i64 s.read]) #[.slice ta NT tc, .slice (some ⟨gb, go, none⟩) NO oc, .slice ba NB bc, .int .i64 s.cur, .int .i64 s.steps, .int .i64 s.spent, .int .i64 s.read] NT NO X s c1 (w3.setCell ⟨X, 1, none⟩ v') (wl NT s.objs M (i + 1)).1 (.slice none 0 0) v' bv ∧ OB (ZC w c1 (X + 1) D) (w3.setCell ⟨X, 1, none⟩ v') bv BF xb ∧ OO (fun q => D ≤ q ∧ ¬ bkb c1 (w.heap.size + 1 + 1) q) (w3.setCell ⟨X, 1, none⟩ v') v' (wl NT s.objs M (i + 1)).2 (xo ++ [(⟨NOb.kind, .slice va NOb.its.length vc, .slice ya NOb.keys.length yc, NOb.fn, NOb.cap, NOb.shut⟩ : Obv)]) ∧ (wl NT s.objs M (i + 1)).2.length = (i + 1) ∧ D ≤ (w3.setCell ⟨X, 1, none⟩ v').heap.size) := by
                        obtain ⟨y1, y2⟩ := cx3.setO (v' := v')
                        rw [wl_some (unhide HJ) (unhide HOB), unhide hNOb, unhide hMOb]
                        have hs3 := t2'.size
                        have hs4 := y2.size
                        exact hide ⟨y1, ((unhide HL).2.1.fr staysB t2' (fun q _ hi e => by have := unhide HBV q hi; have := ((unhide HL).2.2.1.rb q e).1; omega)).fr staysB y2 (fun q _ hi e => by have := ((unhide HL).2.1.in hi).1.1; omega), t1'.fr staysO y2 (fun q _ hi e => by have := (t1'.in hi).1.1; omega), by simp [hlenO], by omega⟩
                      obtain ⟨nva, nvc, ev, -, -⟩ := hr.shape
                      subst ev
                      clear hr hg hat t1' t2' HRo HNC HL cx3 x1 hbx z0 z1 z2 z3 z4 z5
                      go_wp2_with fail
                      go_roundg (gk - 1)
                      case measure => have := unhide hi; omega
                      case rel => exact ⟨i + 1, c1, _, _, by have := unhide hi; unfold Hid; omega, by go_num, HGn⟩
                  · go_simp
                    refine hK.out _ _ ((unhide HSA) _ (hbW0.alloc (Nat.le_of_eq hsW0.symm) _)) (fun hh => ?_)
                    clear hK K
                    have HH1 := hide hh
                    clear hh HH
                    obtain ⟨W1, hW1⟩ : ∃ W, Hid (W0.alloc (.cells #[.int .i64 0, .slice none 0 0, .slice none 0 0, .int .i64 0, .int .i64 0, .bool false] 43) = W) := ⟨_, hide rfl⟩
                    rw [unhide hW1] at HH1 ⊢
                    have HH := HH1
                    clear HH1
                    have hbW1 : Below wr.heap.size wr W1 := by rw [← unhide hW1]; exact hbW0.alloc (Nat.le_of_eq hsW0.symm) _
                    have hzW1 : W1.heap[W0.heap.size]? = some (.cells #[.int .i64 0, .slice none 0 0, .slice none 0 0, .int .i64 0, .int .i64 0, .bool false] 43) := by rw [← unhide hW1]; exact heap_alloc_new W0 _
                    have hsW1 : W1.heap.size = W0.heap.size + 1 := by rw [← unhide hW1]; simp
                    clear n8 n80
                    have n8 := (hbW1.cell (p := ⟨_, 8, none⟩) hbl).trans m8
                    have n80 := (hbW1.cell (p := ⟨b8, o8 + i, none⟩) hb8).trans k80
                    refine wpAnyH_ready (rs := [6]) (by kernel_rfl) (by simp) ?_
                    refine AllReadyH.cons (o := _) rfl (fun K hK => ?_) AllReadyH.nil
                    go_simp
                    refine hK.out _ _ (unhide HH) (fun _ => ?_)
                    clear hK K
                    go_simp
                    refine wpAnyH_take (i := 8) (oi := _) (v := .pointer (some ⟨b8, o8 + i, none⟩)) rfl (by kernel_rfl) (by kernel_rfl) (by kernel_rfl) (fun _ _ _ h => h) (Or.inl ⟨by rfl, (by intro w' hSw; go_simp)⟩) (unhide HH) ?_
                    go_simp
                    refine wpAnyH_ready (rs := [9]) (by kernel_rfl) (by simp) ?_
                    refine AllReadyH.cons (o := _) rfl (fun K hK => ?_) AllReadyH.nil
                    go_simp
                    refine hK.out _ _ (unhide HH) (fun _ => ?_)
                    clear hK K
                    go_simp
                    refine wpAnyH_take (i := 10) (oi := _) (v := .pointer (some ⟨gb, go + jx * 6, none⟩)) rfl (by kernel_rfl) (by kernel_rfl) (by kernel_rfl) (fun _ _ _ h => h) (Or.inl ⟨by rfl, (by intro w' hSw; go_simp)⟩) (unhide HH) ?_
                    go_simp
                    refine wpAnyH_take (i := 11) (oi := _) (v := .agg #[.int .i64 o.kind, .slice ia o.its.length ic, .slice ka o.keys.length kc, .int .i64 o.fn, .int .i64 o.cap, .bool o.shut]) rfl (by kernel_rfl) (by kernel_rfl) (by kernel_rfl) (fun _ _ _ h => h) (Or.inl ⟨by rfl, (by intro w' hSw; obtain ⟨s0, s1, s2, s3, s4, s5, s6⟩ := hSw; go_simp)⟩) (unhide HH) ?_
                    go_simp
                    refine wpAnyH_ready (rs := [12]) (by kernel_rfl) (by simp) ?_
                    refine AllReadyH.cons (o := _) rfl (fun K hK => ?_) AllReadyH.nil
                    go_simp
                    go_at_call 28
                    refine ((unhide HC28) W1 hbW1).mono ?_
                    rintro e w1 ⟨x, rfl, hox, c1, r1, r2, r3, r4, r5⟩
                    have hCX1 := ((unhide HG1).below hbW1).call' (m' := MOb) r1 r2 r3 r4
                    have hS1 : w1.cell? ⟨w.heap.size, 1, none⟩ = some (.slice (some ⟨gb, go, none⟩) NO oc) ∧ w1.cell? ⟨gb, go + jx * 6, none⟩ = some (.int .i64 o.kind) ∧ w1.cell? ⟨gb, go + jx * 6 + 1, none⟩ = some (.slice ia o.its.length ic) ∧ w1.cell? ⟨gb, go + jx * 6 + 2, none⟩ = some (.slice ka o.keys.length kc) ∧ w1.cell? ⟨gb, go + jx * 6 + 3, none⟩ = some (.int .i64 o.fn) ∧ w1.cell? ⟨gb, go + jx * 6 + 4, none⟩ = some (.int .i64 o.cap) ∧ w1.cell? ⟨gb, go + jx * 6 + 5, none⟩ = some (.bool o.shut) := by
                      obtain ⟨y0, y1, y2, y3, y4, y5⟩ := unhide HY
                      have hq := hCX1.a.bw
                      exact ⟨by have := (blk_cells hCX1.a.p).1 1; simpa using this, (hq.cell (p := ⟨gb, _, none⟩) hgb).trans y0, (hq.cell (p := ⟨gb, _, none⟩) hgb).trans y1, (hq.cell (p := ⟨gb, _, none⟩) hgb).trans y2, (hq.cell (p := ⟨gb, _, none⟩) hgb).trans y3, (hq.cell (p := ⟨gb, _, none⟩) hgb).trans y4, (hq.cell (p := ⟨gb, _, none⟩) hgb).trans y5⟩
                    obtain ⟨va, vc, ya, yc, ex, _, _, _, _, _, _⟩ := hox.v.parts
                    subst ex
                    have HT1 := hide (And.intro hCX1 (And.intro hox (And.intro r2 (And.intro r3 r5))))
                    refine hK.out _ _ hS1 (fun _ => ?_)
                    clear hK K
                    have HS1 := hide hS1; clear hS1
                    clear hCX1 hox r1 r2 r3 r4 r5
                    go_simp
                    refine wpAnyH_ready (rs := [14]) (by kernel_rfl) (by simp) ?_
                    refine AllReadyH.cons (o := _) rfl (fun K hK => ?_) AllReadyH.nil
                    have hltc : ∀ q, bkb c (w.heap.size + 1 + 1) q → q < wr.heap.size := fun q hq => ((unhide HG1).a.b.in hq).2
                    have hs1 := (unhide HT1).2.2.1.size
                    have hzw : w1.heap[wr.heap.size]? = some (.cells #[.int .i64 0, .slice none 0 0, .slice none 0 0, .int .i64 0, .int .i64 0, .bool false] 43) := ((unhide HT1).2.2.1.block wr.heap.size (by omega) (fun e => by have := hltc _ e; omega)).trans (by rw [← hsW0]; exact hzW1)
                    obtain ⟨xa, xf, xl⟩ := blk_cells hzw
                    have x0 := xa 0
                    have x1 := xa 1
                    have x2 := xa 2
                    have x3 := xa 3
                    have x4 := xa 4
                    have x5 := xa 5
                    have f0 := xf 0
                    have f1 := xf 1
                    have f2 := xf 2
                    have f3 := xf 3
                    have f4 := xf 4
                    have f5 := xf 5
                    simp at x0 x1 x2 x3 x4 x5
                    go_simp
                    obtain ⟨hz2, hF2'⟩ := six_set hzw (.int .i64 NOb.kind) (.slice va NOb.its.length vc) (.slice ya NOb.keys.length yc) (.int .i64 NOb.fn) (.int .i64 NOb.cap) (.bool NOb.shut)
                    obtain ⟨W2, hW2⟩ : ∃ W, Hid (((((((w1.setCell ⟨wr.heap.size, 0, none⟩ (.int .i64 NOb.kind)).setCell ⟨wr.heap.size, 1, none⟩ (.slice va NOb.its.length vc)).setCell ⟨wr.heap.size, 2, none⟩ (.slice ya NOb.keys.length yc)).setCell ⟨wr.heap.size, 3, none⟩ (.int .i64 NOb.fn)).setCell ⟨wr.heap.size, 4, none⟩ (.int .i64 NOb.cap)).setCell ⟨wr.heap.size, 5, none⟩ (.bool NOb.shut)) = W) := ⟨_, hide rfl⟩
                    rw [unhide hW2] at hz2 hF2' ⊢
                    have hF2 : Fr (fun k => k = wr.heap.size) w1 W2 := hF2'
                    clear hF2'
                    have hXw : X < wr.heap.size := (Array.getElem?_eq_some_iff.1 (unhide HG1).x).1
                    have hCX2 := (unhide HT1).1.fr hF2 (fun k hk => ⟨by omega, fun e => by
                      have h1 := ((unhide HT1).1.a.b.in e).2
                      rcases (unhide HT1).2.2.2.1 k e with r | r
                      · have := hltc _ r; omega
                      · omega⟩)
                    have hS2 : W2.cell? ⟨w.heap.size, 1, none⟩ = some (.slice (some ⟨gb, go, none⟩) NO oc) ∧ W2.cell? ⟨gb, go + jx * 6, none⟩ = some (.int .i64 o.kind) ∧ W2.cell? ⟨gb, go + jx * 6 + 1, none⟩ = some (.slice ia o.its.length ic) ∧ W2.cell? ⟨gb, go + jx * 6 + 2, none⟩ = some (.slice ka o.keys.length kc) ∧ W2.cell? ⟨gb, go + jx * 6 + 3, none⟩ = some (.int .i64 o.fn) ∧ W2.cell? ⟨gb, go + jx * 6 + 4, none⟩ = some (.int .i64 o.cap) ∧ W2.cell? ⟨gb, go + jx * 6 + 5, none⟩ = some (.bool o.shut) := by
                      obtain ⟨y0, y1, y2, y3, y4, y5⟩ := unhide HY
                      have hq := hCX2.a.bw
                      exact ⟨by have := (blk_cells hCX2.a.p).1 1; simpa using this, (hq.cell (p := ⟨gb, _, none⟩) hgb).trans y0, (hq.cell (p := ⟨gb, _, none⟩) hgb).trans y1, (hq.cell (p := ⟨gb, _, none⟩) hgb).trans y2, (hq.cell (p := ⟨gb, _, none⟩) hgb).trans y3, (hq.cell (p := ⟨gb, _, none⟩) hgb).trans y4, (hq.cell (p := ⟨gb, _, none⟩) hgb).trans y5⟩
                    refine hK.out _ _ hS2 (fun _ => ?_)
                    clear hK K hS2
                    have HL : Hid (CX w (cst [.slice ta NT tc, .slice (some ⟨gb, go, none⟩) NO oc, .slice ba NB bc, .int .i64 s.cur, .int .i64 s.steps, .int .i64 s.spent, .int .i64 s.read]) #[.slice ta NT tc, .slice (some ⟨gb, go, none⟩) NO oc, .slice ba NB bc, .int .i64 s.cur, .int .i64 s.steps, .int .i64 s.spent, .int .i64 s.read] NT NO X s c1 W2 MOb (.slice none 0 0) ov bv ∧ OB (ZC w c1 (X + 1) D) W2 bv BF xb ∧ OO (fun q => D ≤ q ∧ ¬ bkb c1 (w.heap.size + 1 + 1) q) W2 ov (wl NT s.objs M i).2 xo ∧ ObO W2 NOb ⟨NOb.kind, .slice va NOb.its.length vc, .slice ya NOb.keys.length yc, NOb.fn, NOb.cap, NOb.shut⟩ ∧ (∀ k, blO ⟨NOb.kind, .slice va NOb.its.length vc, .slice ya NOb.keys.length yc, NOb.fn, NOb.cap, NOb.shut⟩ k → wr.heap.size ≤ k ∧ k < W2.heap.size ∧ ¬ bkb c1 (w.heap.size + 1 + 1) k) ∧ wr.heap.size ≤ W2.heap.size) := by
                      obtain ⟨-, hox, r2, r3, r5⟩ := unhide HT1
                      have hF2s := hF2.size
                      exact hide ⟨hCX2, (((unhide hG).2.1.below staysB hbW1).book staysB r2 r3).fr staysB hF2 (fun q _ hi e => by have := ((unhide hG).2.1.in hi).1.2.1; have := (unhide hG).2.2.2.2; omega), (OW.book' staysO ((unhide hG).2.2.1.below staysO hbW1) r2 r3).fr staysO hF2 (fun q _ hi e => by have := ((unhide hG).2.2.1.in hi).2; omega), staysO _ _ _ _ _ hox hF2 (fun k hk e => by have := (r5 k hk).1; have := (r5 k hk).2.1; omega), fun k hk => ⟨by have := (r5 k hk).1; omega, by have := (r5 k hk).2.1; omega, (r5 k hk).2.2⟩, by omega⟩
                    go_simp
                    refine wpAnyH_done (by kernel_rfl) ?_ _
                    clear hCX2 hF2 x0 x1 x2 x3 x4 x5 f0 f1 f2 f3 f4 f5 xa xf xl HT1 hzw HH HSA HS1 n8 n80
                    have hD4 := (unhide hG).2.2.2.2
                    have hlenO := (unhide hG).2.2.2.1
                    have HOV : Hid (∀ q, (ov.ownBlock = some q ∨ ∃ y ∈ xo, blO y q) → q < wr.heap.size) := hide (fun q hq => ((unhide hG).2.2.1.in hq).2)
                    have HBV : Hid (∀ q, (bv.ownBlock = some q ∨ ∃ y ∈ xb, blB y q) → q < D) := hide (fun q hq => ((unhide hG).2.1.in hq).1.2.1)
                    obtain ⟨za, -, zl⟩ := blk_cells hz2
                    have z0 := za 0
                    have z1 := za 1
                    have z2 := za 2
                    have z3 := za 3
                    have z4 := za 4
                    have z5 := za 5
                    simp at z0 z1 z2 z3 z4 z5
                    have x1 := (blk_cells (unhide HL).1.x).1 1
                    have xl := (blk_cells (unhide HL).1.x).2.2
                    simp at x1
                    obtain ⟨ova, ovc, eov, -, -⟩ := (unhide HL).2.2.1.row.shape
                    rw [hlenO] at eov
                    rw [eov] at x1
                    have HEOV := hide eov
                    have HRo : Hid (∀ O, Ro (W2.alloc O) 6 ov i (flt enO xo)) := fun O => by
                      have := (unhide HL).2.2.1.row.fr ((Fr.refl (fun _ => False) W2).alloc O) (fun _ _ e => e)
                      rw [hlenO] at this
                      exact this
                    have HNC := hide (new_cells W2 #[.int .i64 NOb.kind, .slice va NOb.its.length vc, .slice ya NOb.keys.length yc, .int .i64 NOb.fn, .int .i64 NOb.cap, .bool NOb.shut] 43)
                    have hi3 : i ≤ 1000000000000 := by omega
                    clear eov za
                    go_wp2_with (first | (at_builtin; refine appO rfl _ _ rfl _ i xo (by rw [unhide HEOV]; rfl) (unhide HRo _) ⟨W2.heap.size, 0, none⟩ 1 ⟨NOb.kind, .slice va NOb.its.length vc, .slice ya NOb.keys.length yc, NOb.fn, NOb.cap, NOb.shut⟩ rfl (unhide HNC) rfl rfl hi3 ?_))
                    intro v' w3 hr hg hat
                    have hbx := (unhide HL).1.a.b
                    have hW2s := (unhide HL).2.2.2.2.2
                    obtain ⟨t1', t2'⟩ := OW.push' (Z := fun q => D ≤ q ∧ ¬ bkb c1 (w.heap.size + 1 + 1) q) (u := NOb) (x := (⟨NOb.kind, .slice va NOb.its.length vc, .slice ya NOb.keys.length yc, NOb.fn, NOb.cap, NOb.shut⟩ : Obv)) staysO (unhide HL).2.2.1 (unhide HL).2.2.2.1 (fun q hq => ⟨⟨by have := ((unhide HL).2.2.2.2.1 q hq).1; omega, ((unhide HL).2.2.2.2.1 q hq).2.2⟩, ((unhide HL).2.2.2.2.1 q hq).2.1, fun e => by have := ((unhide HL).2.2.2.2.1 q hq).1; have := unhide HOV q (.inl e); omega⟩) (fun q hq y hy e => by have := ((unhide HL).2.2.2.2.1 q hq).1; have := unhide HOV q (.inr ⟨y, hy, e⟩); omega) ((Below.refl _ _).alloc (Nat.le_refl _) (.cells #[.int .i64 NOb.kind, .slice va NOb.its.length vc, .slice ya NOb.keys.length yc, .int .i64 NOb.fn, .int .i64 NOb.cap, .bool NOb.shut] 43)) ⟨by rw [World.size_alloc]; omega, fun e => by have := (hbx.in e).2; rw [World.size_alloc] at this; omega⟩ hr (by rw [hlenO]) hg (by simpa using hat)
                    have cx3 := (unhide HL).1.fr t2' (fun q hq => ⟨by have := ((unhide HL).2.2.1.rb q hq).1; omega, ((unhide HL).2.2.1.rb q hq).2⟩)
                    have x9 := (blk_cells cx3.x).1 1
                    have xf9 := (blk_cells cx3.x).2.1 1
                    have xl9 := (blk_cells cx3.x).2.2
                    simp at x9
                    have HGn : Hid (CX w (cst [.slice ta NT tc, .slice (some ⟨gb, go, none⟩) NO oc, .slice ba NB bc, .int .i64 s.cur, .int .i64 s.steps, .int .i64 s.spent, .int .i64 s.read]) #[.slice ta NT tc, .slice (some ⟨gb, go, none⟩) NO oc, .slice ba NB bc, .int .i64 s.cur, .int .i64 s.steps, .int .i64 s.spent, .int .i64 s.read] NT NO X s c1 (w3.setCell ⟨X, 1, none⟩ v') (wl NT s.objs M (i + 1)).1 (.slice none 0 0) v' bv ∧ OB (ZC w c1 (X + 1) D) (w3.setCell ⟨X, 1, none⟩ v') bv BF xb ∧ OO (fun q => D ≤ q ∧ ¬ bkb c1 (w.heap.size + 1 + 1) q) (w3.setCell ⟨X, 1, none⟩ v') v' (wl NT s.objs M (i + 1)).2 (xo ++ [(⟨NOb.kind, .slice va NOb.its.length vc, .slice ya NOb.keys.length yc, NOb.fn, NOb.cap, NOb.shut⟩ : Obv)]) ∧ (wl NT s.objs M (i + 1)).2.length = (i + 1) ∧ D ≤ (w3.setCell ⟨X, 1, none⟩ v').heap.size) := by
                      obtain ⟨y1, y2⟩ := cx3.setO (v' := v')
                      rw [wl_some (unhide HJ) (unhide HOB), unhide hNOb, unhide hMOb]
                      have hs3 := t2'.size
                      have hs4 := y2.size
                      exact hide ⟨y1, ((unhide HL).2.1.fr staysB t2' (fun q _ hi e => by have := unhide HBV q hi; have := ((unhide HL).2.2.1.rb q e).1; omega)).fr staysB y2 (fun q _ hi e => by have := ((unhide HL).2.1.in hi).1.1; omega), t1'.fr staysO y2 (fun q _ hi e => by have := (t1'.in hi).1.1; omega), by simp [hlenO], by omega⟩
                    obtain ⟨nva, nvc, ev, -, -⟩ := hr.shape
                    subst ev
                    clear hr hg hat t1' t2' HRo HNC HL cx3 x1 hbx z0 z1 z2 z3 z4 z5
                    go_wp2_with fail
                    go_roundg (gk - 1)
                    case measure => have := unhide hi; omega
                    case rel => exact ⟨i + 1, c1, _, _, by have := unhide hi; unfold Hid; omega, by go_num, HGn⟩
                · clear g1
                  go_wp2_with fail
                  have hi5 : (wl NT s.objs M NO) = (wl NT s.objs M i) := by
                    have h1 := unhide hi
                    have h2 := wl_stop (nt := NT) (O := s.objs) (m := M) (i := i) (by rw [unhide hOL]; omega) (NO - i)
                    rwa [show i + (NO - i) = NO by omega] at h2
                  obtain ⟨RW, hRW⟩ : ∃ r, Hid ((wl NT s.objs M NO) = r) := ⟨_, hide rfl⟩
                  obtain ⟨g1, g2, g3, g4, g5⟩ := unhide hG
                  rw [← hi5, unhide hRW] at g1 g3
                  have HMR : Hid (MOk NT s.objs.length RW.1) := by rw [← unhide hRW]; exact hide (MOk.wl (unhide HM) NO)
                  obtain ⟨TL, hTL⟩ : ∃ n, Hid (RW.1.1.length = n) := ⟨_, hide rfl⟩
                  have hTLN : TL ≤ NT := by rw [← unhide hTL]; exact pigeon _ _ (unhide HMR).d1 (unhide HMR).b1
                  obtain ⟨E, hE⟩ : ∃ E, Hid (wr.heap.size = E) := ⟨_, hide rfl⟩
                  have hXE : X < E := by rw [← unhide hE]; exact (Array.getElem?_eq_some_iff.1 g1.x).1
                  have H50 : Hid (CX w (cst [.slice ta NT tc, .slice oa NO oc, .slice ba NB bc, .int .i64 s.cur, .int .i64 s.steps, .int .i64 s.spent, .int .i64 s.read]) #[.slice ta NT tc, .slice oa NO oc, .slice ba NB bc, .int .i64 s.cur, .int .i64 s.steps, .int .i64 s.spent, .int .i64 s.read] NT NO X s c wr RW.1 (Value.slice none 0 0) ov bv ∧ OB (ZC w c (X + 1) E) wr bv BF xb ∧ OO (ZC w c (X + 1) E) wr ov RW.2 xo ∧ Ro wr 1 (Value.slice none 0 0) 0 (flt enT ((RW.1.1.take 0).map (fun i => s.texts.getD i ByteArray.empty))) ∧ (∀ q, (Value.slice none 0 0).ownBlock = some q → E ≤ q ∧ ¬ bkb c (w.heap.size + 1 + 1) q) ∧ E ≤ wr.heap.size) :=
                    hide ⟨g1, g2.mono (fun q hq hz => ⟨hz.1, by rw [← unhide hE]; exact hq, hz.2.2⟩), g3.mono (fun q hq hz => ⟨by have := hz.1; omega, by rw [← unhide hE]; exact hq, hz.2⟩), by simpa [flt] using Ro.nil _ _, by simp [Value.ownBlock], by rw [unhide hE]; exact Nat.le_refl _⟩
                  clear hi5 g1 g2 g3 g4 g5 hG hOL m8 HE8 q8 q8' hlt4
                  go_loopg [13] TL (fun g t13 wr => ∃ (k : Nat) (tv : Value), Hid (k + g = TL) ∧ t13 = .int .i64 (k : Int) ∧ Hid (CX w (cst [.slice ta NT tc, .slice oa NO oc, .slice ba NB bc, .int .i64 s.cur, .int .i64 s.steps, .int .i64 s.spent, .int .i64 s.read]) #[.slice ta NT tc, .slice oa NO oc, .slice ba NB bc, .int .i64 s.cur, .int .i64 s.steps, .int .i64 s.spent, .int .i64 s.read] NT NO X s c wr RW.1 tv ov bv ∧ OB (ZC w c (X + 1) E) wr bv BF xb ∧ OO (ZC w c (X + 1) E) wr ov RW.2 xo ∧ Ro wr 1 tv k (flt enT ((RW.1.1.take k).map (fun i => s.texts.getD i ByteArray.empty))) ∧ (∀ q, tv.ownBlock = some q → E ≤ q ∧ ¬ bkb c (w.heap.size + 1 + 1) q) ∧ E ≤ wr.heap.size))
                  case atStart => exact ⟨0, _, by unfold Hid; omega, rfl, H50⟩
                  case round =>
                    clear H50
                    obtain ⟨k, tv, hk, rfl, hG⟩ := hrel
                    have g1 := (unhide hG).1
                    obtain ⟨a7, p7, e7, q7, q7'⟩ := g1.a.b.r1.shape
                    rw [unhide hTL] at e7 q7
                    have m7 : wr.cell? ⟨w.heap.size + 1 + 1, 7, none⟩ = some (.slice a7 TL p7) := by rw [g1.a.b.cell 7, ← e7]; rfl
                    have mm0 := (blk_cells g1.a.p).1 0
                    simp at mm0
                    have hbl5 := (blk_cells g1.a.b.box).2.2
                    have HE7 := hide e7
                    unfold maxLen at q7'
                    clear e7
                    by_cases hlt5 : k < TL
                    · obtain ⟨jx, hjx⟩ : ∃ x, RW.1.1[k]? = some x := ⟨_, List.getElem?_eq_getElem (by rw [unhide hTL]; exact hlt5)⟩
                      have hjN : jx < NT := (unhide HMR).b1 jx (List.mem_of_getElem? hjx)
                      obtain ⟨p, hp⟩ : ∃ p, s.texts[jx]? = some p := ⟨_, List.getElem?_eq_getElem (by rw [unhide hNT]; exact hjN)⟩
                      obtain ⟨b7, o7, p7', e7', -, -, hb7, k7⟩ := (Rx.of_ro g1.a.b.r1).elem zN hjx
                      rw [unhide HE7] at e7'
                      injection e7' with e71 e72 e73
                      subst e71
                      clear e72 e73 k7
                      obtain ⟨tb, to', tc', et, -, -, htb, kt⟩ := unhide HT jx p hp
                      injection et with et1 et2 et3
                      subst et1
                      clear et2 et3
                      have kt0 := kt 0 _ rfl
                      simp only [Nat.mul_one, Nat.add_zero] at kt0
                      have HJ := hide hjx
                      have HP := hide hp
                      have HKT := hide kt0
                      have HSX : Hid (∀ (W : World) (tv' : Value), CX w (cst [.slice (some ⟨tb, to', none⟩) NT tc, .slice oa NO oc, .slice ba NB bc, .int .i64 s.cur, .int .i64 s.steps, .int .i64 s.spent, .int .i64 s.read]) #[.slice (some ⟨tb, to', none⟩) NT tc, .slice oa NO oc, .slice ba NB bc, .int .i64 s.cur, .int .i64 s.steps, .int .i64 s.spent, .int .i64 s.read] NT NO X s c W RW.1 tv' ov bv → (W.cell? ⟨w.heap.size, 0, none⟩ = some (.slice (some ⟨tb, to', none⟩) NT tc) ∧ W.cell? ⟨w.heap.size + 1 + 1, 7, none⟩ = some (.slice (some ⟨b7, o7, none⟩) TL p7) ∧ W.cell? ⟨b7, o7 + k, none⟩ = some (.int .i64 (jx : Int)) ∧ W.cell? ⟨tb, to' + jx, none⟩ = some (.string p))) := fun W tv' h => by
                        have hq := h.a.bw
                        obtain ⟨b, o, cc, ee, -, -, -, kk⟩ := (Rx.of_ro h.a.b.r1).elem zN (unhide HJ)
                        rw [unhide HE7] at ee
                        injection ee with ee1 ee2 ee3
                        cases ee1
                        have kk0 := kk 0 _ rfl
                        simp only [Nat.mul_one, Nat.add_zero] at kk0
                        exact ⟨by have := (blk_cells h.a.p).1 0; simpa using this, by rw [h.a.b.cell 7, ← unhide HE7]; rfl, kk0, (hq.cell (p := ⟨tb, _, none⟩) htb).trans (unhide HKT)⟩
                      obtain ⟨h1, h2, h3, h4, h5, h6⟩ := unhide hG
                      obtain ⟨tva, tvc, etv, -, -⟩ := h4.shape
                      subst etv
                      have bd := bl_drew wr
                      have hdr := h1.below bd
                      have HH := hide (unhide HSX _ _ hdr)
                      obtain ⟨W0, hW0⟩ : ∃ W, Hid (wr.drew = W) := ⟨_, hide rfl⟩
                      rw [unhide hW0] at HH bd hdr
                      have hsW0 : W0.heap.size = wr.heap.size := by rw [← unhide hW0]; rfl
                      have ba0 : Below wr.heap.size wr (W0.alloc (.cells #[.string p] 9)) := bd.alloc (Nat.le_of_eq hsW0.symm) _
                      have n0 := (blk_cells hdr.x).1 0
                      simp at n0
                      have hnc := new_cells W0 #[.string p] 9
                      have hsa : (W0.alloc (.cells #[.string p] 9)).heap.size = W0.heap.size + 1 := by simp
                      obtain ⟨Wa, hWa⟩ : ∃ W, Hid (W0.alloc (.cells #[.string p] 9) = W) := ⟨_, hide rfl⟩
                      rw [unhide hWa] at ba0 hnc hsa
                      rw [hsW0] at hnc
                      have hCa := h1.below ba0
                      have HSa := hide (unhide HSX _ _ hCa)
                      have n0a := (blk_cells hCa.x).1 0
                      simp at n0a
                      have hrow : Ro Wa 1 (Value.slice tva k tvc) k (flt enT ((RW.1.1.take k).map (fun i => s.texts.getD i ByteArray.empty))) := h4.fr (Fr.of_below (S := fun _ => False) ba0) (fun _ _ e => e)
                      obtain ⟨j0, hj0, hz0, hz1, hz2⟩ := info_parts infT
                      obtain ⟨v', w2, hrun, r1, r2, r3⟩ := Ro.app (P := Try.prog) 22 22 9 j0 _ 1 16 Try.underlying22 hj0 hz0 hz1 hz2 rfl (by decide) hrow ⟨wr.heap.size, 0, none⟩ 1 1 (enT p) rfl hnc (by simp [enT, Value.oneCell']) (by omega) (by unfold maxLen; omega) (by omega)
                      have fg : Fr (fun q => (Value.slice tva k tvc).ownBlock = some q) Wa w2 := (Fr.refl _ Wa).grown r2 (fun q e => .inr e)
                      have fw : Fr (fun q => (Value.slice tva k tvc).ownBlock = some q) wr w2 := (Fr.of_below (S := fun q => (Value.slice tva k tvc).ownBlock = some q) ba0).trans fg
                      have cx2 := h1.fr fw (fun q hq => ⟨by have := (h5 q hq).1; omega, (h5 q hq).2⟩)
                      have HSw2 := hide (unhide HSX _ _ cx2)
                      obtain ⟨y1, y2⟩ := cx2.setT (v' := v')
                      have HSw3 := hide (unhide HSX _ _ y1)
                      have x9 := (blk_cells cx2.x).1 0
                      have xf9 := (blk_cells cx2.x).2.1 0
                      have xl9 := (blk_cells cx2.x).2.2
                      simp at x9
                      have HGn : Hid (CX w (cst [.slice (some ⟨tb, to', none⟩) NT tc, .slice oa NO oc, .slice ba NB bc, .int .i64 s.cur, .int .i64 s.steps, .int .i64 s.spent, .int .i64 s.read]) #[.slice (some ⟨tb, to', none⟩) NT tc, .slice oa NO oc, .slice ba NB bc, .int .i64 s.cur, .int .i64 s.steps, .int .i64 s.spent, .int .i64 s.read] NT NO X s c (w2.setCell ⟨X, 0, none⟩ v') RW.1 v' ov bv ∧ OB (ZC w c (X + 1) E) (w2.setCell ⟨X, 0, none⟩ v') bv BF xb ∧ OO (ZC w c (X + 1) E) (w2.setCell ⟨X, 0, none⟩ v') ov RW.2 xo ∧ Ro (w2.setCell ⟨X, 0, none⟩ v') 1 v' (k + 1) (flt enT ((RW.1.1.take (k + 1)).map (fun i => s.texts.getD i ByteArray.empty))) ∧ (∀ q, v'.ownBlock = some q → E ≤ q ∧ ¬ bkb c (w.heap.size + 1 + 1) q) ∧ E ≤ (w2.setCell ⟨X, 0, none⟩ v').heap.size) := by
                        have hgd : s.texts[jx]?.getD ByteArray.empty = p := by rw [unhide HP]; rfl
                        have hfs := fw.size
                        have hys := y2.size
                        have hv' : ∀ q, v'.ownBlock = some q → E ≤ q ∧ ¬ bkb c (w.heap.size + 1 + 1) q := fun q hq => by
                          rcases r3 with r | r
                          · exact h5 q (r ▸ hq)
                          · rw [r] at hq
                            cases hq
                            exact ⟨by omega, fun e => by have := (hCa.a.b.in e).2; omega⟩
                        rw [take_push (unhide HJ), List.map_append, flt_append]
                        refine hide ⟨y1, (h2.fr staysB fw (fun q _ hi e => by have := (h2.in hi).1.2.1; have := (h5 q e).1; omega)).fr staysB y2 (fun q _ hi e => by have := (h2.in hi).1.1; omega), (h3.fr staysO fw (fun q _ hi e => by have := (h3.in hi).1.2.1; have := (h5 q e).1; omega)).fr staysO y2 (fun q _ hi e => by have := (h3.in hi).1.1; omega), ?_, hv', by omega⟩
                        have := r1.fr y2 (fun q hq e => by have := (hv' q hq).1; omega)
                        simpa [flt, hgd] using this
                      obtain ⟨va, vc, ev, -, -⟩ := r1.shape
                      have HRUN := hide hrun
                      subst ev
                      have k0' : (0 : Int) ≤ (k : Int) := by omega
                      have k1' : (k : Int) < (TL : Int) := by omega
                      have jj0 : (0 : Int) ≤ (jx : Int) := by omega
                      have jj1 : (jx : Int) < (NT : Int) := by omega
                      clear h1 h2 h3 h4 h5 hG g1 hdr hCa hrow r1 r2 r3 fg fw cx2 y1 y2 hrun hnc hjx hp
                      go_wp2_with fail
                      refine wp_region_held_drew (S := (fun w' => w'.cell? ⟨w.heap.size, 0, none⟩ = some (.slice (some ⟨tb, to', none⟩) NT tc) ∧ w'.cell? ⟨w.heap.size + 1 + 1, 7, none⟩ = some (.slice (some ⟨b7, o7, none⟩) TL p7) ∧ w'.cell? ⟨b7, o7 + k, none⟩ = some (.int .i64 (jx : Int)) ∧ w'.cell? ⟨tb, to' + jx, none⟩ = some (.string p))) (by kernel_rfl) (by rw [unhide hW0]; exact unhide HH) (fun hHeld => ?_)
                      clear hHeld
                      rw [unhide hW0]
                      refine wpAnyH_take (i := 0) (oi := _) (v := .pointer (some ⟨X, 0, none⟩)) rfl (by kernel_rfl) (by kernel_rfl) (by kernel_rfl) (fun _ _ _ h => h) (Or.inl ⟨by rfl, (by intro w' hSw; go_simp)⟩) (unhide HH) ?_
                      refine wpAnyH_take (i := 2) (oi := _) (v := .pointer (some ⟨w.heap.size, 0, none⟩)) rfl (by kernel_rfl) (by kernel_rfl) (by kernel_rfl) (fun _ _ _ h => h) (Or.inl ⟨by rfl, (by intro w' hSw; go_simp)⟩) (unhide HH) ?_
                      go_simp
                      refine wpAnyH_take (i := 3) (oi := _) (v := (.slice (some ⟨tb, to', none⟩) NT tc)) rfl (by kernel_rfl) (by kernel_rfl) (by kernel_rfl) (fun _ _ _ h => h) (Or.inl ⟨by rfl, (by intro w' hSw; obtain ⟨s0, s1, s2, s3⟩ := hSw; go_simp)⟩) (unhide HH) ?_
                      refine wpAnyH_take (i := 4) (oi := _) (v := .pointer (some ⟨w.heap.size + 1 + 1, 0, none⟩)) rfl (by kernel_rfl) (by kernel_rfl) (by kernel_rfl) (fun _ _ _ h => h) (Or.inl ⟨by rfl, (by intro w' hSw; go_simp)⟩) (unhide HH) ?_
                      go_simp
                      refine wpAnyH_take (i := 5) (oi := _) (v := .pointer (some ⟨w.heap.size + 1 + 1, 0, none⟩)) rfl (by kernel_rfl) (by kernel_rfl) (by kernel_rfl) (fun _ _ _ h => h) (Or.inl ⟨by rfl, (by intro w' hSw; go_simp)⟩) (unhide HH) ?_
                      go_simp
                      refine wpAnyH_take (i := 6) (oi := _) (v := .pointer (some ⟨w.heap.size + 1 + 1, 7, none⟩)) rfl (by kernel_rfl) (by kernel_rfl) (by kernel_rfl) (fun _ _ _ h => h) (Or.inl ⟨by rfl, (by intro w' hSw; go_simp)⟩) (unhide HH) ?_
                      go_simp
                      refine wpAnyH_take (i := 7) (oi := _) (v := (.slice (some ⟨b7, o7, none⟩) TL p7)) rfl (by kernel_rfl) (by kernel_rfl) (by kernel_rfl) (fun _ _ _ h => h) (Or.inl ⟨by rfl, (by intro w' hSw; obtain ⟨s0, s1, s2, s3⟩ := hSw; go_simp)⟩) (unhide HH) ?_
                      refine wpAnyH_take (i := 8) (oi := _) (v := .int .i64 (k : Int)) rfl (by kernel_rfl) (by kernel_rfl) (by kernel_rfl) (fun _ _ _ h => h) (Or.inl ⟨by rfl, (by intro w' hSw; go_simp)⟩) (unhide HH) ?_
                      go_simp
                      refine wpAnyH_take (i := 9) (oi := _) (v := .pointer (some ⟨b7, o7 + k, none⟩)) rfl (by kernel_rfl) (by kernel_rfl) (by kernel_rfl) (fun _ _ _ h => h) (Or.inl ⟨by rfl, (by intro w' hSw; go_simp)⟩) (unhide HH) ?_
                      go_simp
                      refine wpAnyH_take (i := 10) (oi := _) (v := .int .i64 (jx : Int)) rfl (by kernel_rfl) (by kernel_rfl) (by kernel_rfl) (fun _ _ _ h => h) (Or.inl ⟨by rfl, (by intro w' hSw; obtain ⟨s0, s1, s2, s3⟩ := hSw; go_simp)⟩) (unhide HH) ?_
                      go_simp
                      refine wpAnyH_take (i := 11) (oi := _) (v := (.pointer (some ⟨tb, to' + jx, none⟩))) rfl (by kernel_rfl) (by kernel_rfl) (by kernel_rfl) (fun _ _ _ h => h) (Or.inl ⟨by rfl, (by intro w' hSw; go_simp)⟩) (unhide HH) ?_
                      go_simp
                      refine wpAnyH_take (i := 12) (oi := _) (v := (.string p)) rfl (by kernel_rfl) (by kernel_rfl) (by kernel_rfl) (fun _ _ _ h => h) (Or.inl ⟨by rfl, (by intro w' hSw; obtain ⟨s0, s1, s2, s3⟩ := hSw; go_simp)⟩) (unhide HH) ?_
                      go_simp
                      refine wpAnyH_ready (rs := [1, 13]) (by kernel_rfl) (by simp) ?_
                      refine AllReadyH.cons (o := _) rfl (fun K hK => ?_) (AllReadyH.cons (o := _) rfl (fun K hK => ?_) AllReadyH.nil)
                      · go_simp
                        refine hK.out _ _ (unhide HH) (fun _ => ?_)
                        clear hK K
                        go_simp
                        refine wpAnyH_ready (rs := [13]) (by kernel_rfl) (by simp) ?_
                        refine AllReadyH.cons (o := _) rfl (fun K hK => ?_) AllReadyH.nil
                        go_simp
                        rw [unhide hWa]
                        refine hK.out _ _ (unhide HSa) (fun _ => ?_)
                        clear hK K
                        go_simp
                        refine wpAnyH_ready (rs := [14]) (by kernel_rfl) (by simp) ?_
                        refine AllReadyH.cons (o := _) rfl (fun K hK => ?_) AllReadyH.nil
                        refine step_appRun rfl _ _ (by rfl) _ _ _ (by rfl) (by rfl) (unhide HRUN) ?_
                        refine hK.out _ _ (unhide HSw2) (fun _ => ?_)
                        clear hK K
                        go_simp
                        refine wpAnyH_take (i := 15) (oi := _) (v := .pointer (some ⟨X, 0, none⟩)) rfl (by kernel_rfl) (by kernel_rfl) (by kernel_rfl) (fun _ _ _ h => h) (Or.inl ⟨by rfl, (by intro w' hSw; go_simp)⟩) (unhide HSw2) ?_
                        go_simp
                        refine wpAnyH_ready (rs := [16]) (by kernel_rfl) (by simp) ?_
                        refine AllReadyH.cons (o := _) rfl (fun K hK => ?_) AllReadyH.nil
                        go_simp
                        refine hK.out _ _ (unhide HSw3) (fun _ => ?_)
                        clear hK K
                        go_simp
                        refine wpAnyH_done (by kernel_rfl) ?_ _
                        go_wp2_with fail
                        go_roundg (gk - 1)
                        case measure => have := unhide hk; omega
                        case rel => exact ⟨k + 1, _, by have := unhide hk; unfold Hid; omega, by go_num, HGn⟩
                      · go_simp
                        rw [unhide hWa]
                        refine hK.out _ _ (unhide HSa) (fun _ => ?_)
                        clear hK K
                        go_simp
                        refine wpAnyH_ready (rs := [1]) (by kernel_rfl) (by simp) ?_
                        refine AllReadyH.cons (o := _) rfl (fun K hK => ?_) AllReadyH.nil
                        go_simp
                        refine hK.out _ _ (unhide HSa) (fun _ => ?_)
                        clear hK K
                        go_simp
                        refine wpAnyH_ready (rs := [14]) (by kernel_rfl) (by simp) ?_
                        refine AllReadyH.cons (o := _) rfl (fun K hK => ?_) AllReadyH.nil
                        refine step_appRun rfl _ _ (by rfl) _ _ _ (by rfl) (by rfl) (unhide HRUN) ?_
                        refine hK.out _ _ (unhide HSw2) (fun _ => ?_)
                        clear hK K
                        go_simp
                        refine wpAnyH_take (i := 15) (oi := _) (v := .pointer (some ⟨X, 0, none⟩)) rfl (by kernel_rfl) (by kernel_rfl) (by kernel_rfl) (fun _ _ _ h => h) (Or.inl ⟨by rfl, (by intro w' hSw; go_simp)⟩) (unhide HSw2) ?_
                        go_simp
                        refine wpAnyH_ready (rs := [16]) (by kernel_rfl) (by simp) ?_
                        refine AllReadyH.cons (o := _) rfl (fun K hK => ?_) AllReadyH.nil
                        go_simp
                        refine hK.out _ _ (unhide HSw3) (fun _ => ?_)
                        clear hK K
                        go_simp
                        refine wpAnyH_done (by kernel_rfl) ?_ _
                        go_wp2_with fail
                        go_roundg (gk - 1)
                        case measure => have := unhide hk; omega
                        case rel => exact ⟨k + 1, _, by have := unhide hk; unfold Hid; omega, by go_num, HGn⟩
                    · have hkT : TL = k := by have := unhide hk; omega
                      subst hkT
                      obtain ⟨h1, h2, h3, h4, h5, h6⟩ := unhide hG
                      have hlt' : ((RW.1.1.take TL).map (fun i => s.texts.getD i ByteArray.empty)) = RW.1.1.map (fun i => s.texts.getD i ByteArray.empty) := by rw [show RW.1.1.take TL = RW.1.1 from List.take_of_length_le (by rw [unhide hTL]; exact Nat.le_refl _)]
                      rw [hlt'] at h4
                      obtain ⟨tva, tvc, etv, -, -⟩ := h4.shape
                      obtain ⟨ova, ovc, eov, -, -⟩ := h3.row.shape
                      obtain ⟨bva, bvc, ebv, -, -⟩ := h2.row.shape
                      have hX := h1.lX
                      obtain ⟨qa, qf, ql⟩ := blk_cells h1.a.q
                      obtain ⟨xa, -, xl⟩ := blk_cells h1.x
                      have c0 := qa 0
                      have c1 := qa 1
                      have c2 := qa 2
                      have c3 := qa 3
                      have c4 := qa 4
                      have c5 := qa 5
                      have c6 := qa 6
                      have e0 := qf 0
                      have e1 := qf 1
                      have e2 := qf 2
                      have e3 := qf 3
                      have e4 := qf 4
                      have e5 := qf 5
                      have e6 := qf 6
                      have d0 := xa 0
                      have d1 := xa 1
                      have d2 := xa 2
                      have d3 := xa 3
                      have d4 := xa 4
                      have d5 := xa 5
                      have d6 := xa 6
                      simp at c0 c1 c2 c3 c4 c5 c6 d0 d1 d2 d3 d4 d5 d6
                      rw [etv] at d0
                      rw [eov] at d1
                      rw [ebv] at d2
                      have HF := hide (And.intro h1 (And.intro h2 (And.intro h3 h4)))
                      have HTV := hide h5
                      have HEV := hide (And.intro etv (And.intro eov ebv))
                      clear h1 h2 h3 h4 h5 etv eov ebv hG g1 qa qf xa
                      go_wp2_with fail
                      refine bodyPost_ret (v := .agg #[.slice tva TL tvc, .slice ova RW.2.length ovc, .slice bva BF.length bvc, .int .i64 s.cur, .int .i64 s.steps, .int .i64 s.spent, .int .i64 s.read]) ?_ rfl ?_
                      · rw [results_cell_one rfl]
                        go_simp
                      · have f0 : ∀ (Y : World), Fr (fun k => k = w.heap.size + 1) wr Y → CnP w (canD s) (.returned (.agg #[.slice tva TL tvc, .slice ova RW.2.length ovc, .slice bva BF.length bvc, .int .i64 s.cur, .int .i64 s.steps, .int .i64 s.spent, .int .i64 s.read])) Y := fun Y hF => by
                          obtain ⟨h1, h2, h3, h4⟩ := unhide HF
                          obtain ⟨etv, eov, ebv⟩ := unhide HEV
                          have hcan : canD s = ⟨RW.1.1.map (fun i => s.texts.getD i ByteArray.empty), RW.2, BF, s.cur, s.steps, s.spent, s.read⟩ := by
                            unfold canD
                            simp only [unhide hNT, unhide hNO, unhide hM, unhide hRW, unhide hBF]
                          rw [hcan, ← etv, ← eov, ← ebv]
                          have hbw := h1.a.bw
                          refine ⟨_, rfl, ⟨_, _, _, rfl, ?_, (h3.fr staysO hF (fun q _ hi e => by have := (h3.in hi).1.1; omega)).osv, (h2.fr staysB hF (fun q _ hi e => by have := (h2.in hi).1.1; omega)).bsv⟩, hbw.trans (hF.below hbw.size (fun q hq e => by omega))⟩
                          show Rx Y 1 tv (RW.1.1.map (fun i => s.texts.getD i ByteArray.empty)).length _
                          rw [List.length_map, unhide hTL]
                          exact Rx.of_ro (h4.fr hF (fun q hq e => by have := (unhide HTV q hq).1; omega))
                        apply f0
                        repeat (first | refine Fr.setCell ?_ _ (by simp) _ | with_reducible exact Fr.refl _ _)
end Go.Proofs.Ytadgiccfjppnfaa
