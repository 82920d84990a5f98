/-
  A copy of a function.
-/
import Derived.Test.YtbkfnmkfbdoadaaGreatDoorOwn
namespace Go.Proofs.YtbkfnmkfbdoadaaGreatDoor
open Go.RowKit
set_option linter.unusedVariables false
set_option maxRecDepth 100000 in
set_option maxHeartbeats 1600000 in
theorem copyI_any {w : World} {lv : Value} {l : List (Int × Int)} (h : Rx w 2 lv l.length (flt enI l)) (hN : l.length ≤ 8796093021952) :
    Calls Tryz.prog 45 #[lv] w fun e w' => ∃ v', e = .returned v' ∧ Gx w 2 enI l v' w' := by
  have HC := hide (fun i p (hp : l[i]? = some p) => h.elem zI hp)
  obtain ⟨_, a, cap, rfl, hlc, hcm, _⟩ := h
  obtain ⟨L, hL⟩ : ∃ L, Hid (l.length = L) := ⟨_, rfl⟩
  rw [unhide hL] at hN hlc HC ⊢
  go_enter Tryz.func45, Tryz.ntmps45
  go_wp2_with fail
  go_loopg [3, 4] L (fun g t3 t4 wr => ∃ (i : Nat) (v : Value), Hid (i + g = L) ∧ t3 = v ∧ t4 = .int .i64 (i : Int) ∧ Hid (Gx w 2 enI (l.take i) v wr))
  case atStart => exact ⟨0, _, by unfold Hid; omega, rfl, rfl, ⟨by simpa [flt] using Ro.nil _ _, Below.refl _ _, by simp [Value.ownBlock]⟩⟩
  case round =>
    obtain ⟨i, v, hi, rfl, rfl, hG⟩ := hrel
    by_cases hlt : i < L
    · have hil : i < l.length := by rw [unhide hL]; exact hlt
      obtain ⟨p, hp⟩ : ∃ p, l[i]? = some p := ⟨_, List.getElem?_eq_getElem hil⟩
      obtain ⟨b, off, cap', e, _, _, hb, hcs⟩ := unhide HC i p hp
      cases e
      have hs := (unhide hG).2.1
      have k0 : wr.cell? ⟨b, off + i * 2, none⟩ = some (.int .i64 p.1) := (hs.cell (p := ⟨b, off + i * 2, none⟩) hb).trans (hcs 0 _ rfl)
      have k1 : wr.cell? ⟨b, off + i * 2 + 1, none⟩ = some (.int .i64 p.2) := (hs.cell (p := ⟨b, off + i * 2 + 1, none⟩) hb).trans (hcs 1 _ rfl)
      have hbr := Nat.lt_of_lt_of_le hb hs.size
      have i0 : (0 : Int) ≤ (i : Int) := by omega
      have i1 : (i : Int) < (L : Int) := by omega
      have htl : (l.take i).length = i := by simp; omega
      have HRo := hide (unhide hG).1
      have HP := hide hp
      clear hs hcs hp
      go_wp2_with (first | (at_builtin; refine appI rfl _ _ rfl _ (l.take i) rfl ((unhide HRo).keep (fun g hg => Below.heap_alloc _ _ _ ((unhide HRo).lt g hg))) ⟨wr.heap.size, 0, none⟩ 1 p rfl (new_cells _ _ _) (by rw [htl]; omega) ?_))
      intro v' w' hr hg hat
      have hG2 := (unhide hG).push hr (by rw [htl]) hg (by simpa using hat)
      rw [← take_push (unhide HP)] at hG2
      have HG2 := hide hG2
      clear hr hg hat hG2
      go_wp2_with fail
      go_roundg (gk - 1)
      case measure => have := unhide hi; omega
      case rel => exact ⟨i + 1, v', by have := unhide hi; unfold Hid; omega, rfl, by go_num, HG2⟩
    · have hiL : i = L := by have := unhide hi; omega
      subst hiL
      have hG0 := unhide hG
      rw [List.take_of_length_le (by rw [unhide hL]; exact Nat.le_refl _)] at hG0
      have HG0 := hide hG0
      clear hG hG0
      go_wp2_with fail
      go_ret
      exact ⟨_, rfl, unhide HG0⟩

set_option linter.unusedVariables false
set_option linter.unusedSimpArgs false
set_option maxRecDepth 100000
/-- A function copied. -/
def CpF (w : World) (f : Fc) (y : Fv) (w' : World) : Prop := FnO w' f y ∧ Below w.heap.size w w' ∧ (∀ b, (y.cv.ownBlock = some b ∨ y.hv.ownBlock = some b) → w.heap.size ≤ b) ∧ (∀ b, y.cv.ownBlock = some b → y.hv.ownBlock ≠ some b)
theorem boxes3 (w : World) (u v x : Array Value) (e1 e2 e3 : TypeId) {W : World} (h : (((w.alloc (.cells u e1)).alloc (.cells v e2)).alloc (.cells x e3)) = W) :
    W.heap[w.heap.size]? = some (.cells u e1 (0, 0)) ∧ W.heap[w.heap.size + 1]? = some (.cells v e2 (0, 0)) ∧ W.heap[w.heap.size + 1 + 1]? = some (.cells x e3 (0, 0)) ∧ Below w.heap.size w W ∧ W.heap.size = w.heap.size + 3 := by
  subst h
  have h1 := heap_alloc_new w (.cells u e1)
  have h2 := heap_alloc_new (w.alloc (.cells u e1)) (.cells v e2)
  have h3 := heap_alloc_new ((w.alloc (.cells u e1)).alloc (.cells v e2)) (.cells x e3)
  simp only [World.size_alloc] at h2 h3
  refine ⟨(Below.heap_alloc _ _ _ (by simp; omega)).trans ((Below.heap_alloc _ _ _ (by simp)).trans h1), (Below.heap_alloc _ _ _ (by simp)).trans h2, h3, (((Below.refl _ w).alloc (Nat.le_refl _) _).alloc (by simp) _).alloc (by simp; omega) _, by simp⟩
theorem box5o {w : World} {b : Nat} {u0 u1 u2 u3 u4 : Value} {t : TypeId} (h : w.heap[b]? = some (.cells #[u0, u1, u2, u3, u4] t (0, 0))) :
    w.cell? ⟨b, 0, none⟩ = some u0 ∧ w.cell? ⟨b, 1, none⟩ = some u1 ∧ w.cell? ⟨b, 2, none⟩ = some u2 ∧ w.cell? ⟨b, 3, none⟩ = some u3 ∧ w.cell? ⟨b, 4, none⟩ = some u4 ∧ (∀ o, w.frozen? ⟨b, o, none⟩ = false) ∧ b < w.heap.size := by
  refine ⟨by simp [World.cell?, h], by simp [World.cell?, h], by simp [World.cell?, h], by simp [World.cell?, h], by simp [World.cell?, h], fun o => by simp [World.frozen?, h], (Array.getElem?_eq_some_iff.1 h).1⟩
set_option maxHeartbeats 6400000 in
theorem cpF_any {w : World} {f : Fc} {x : Fv} (h : FnV w f x) (hI : f.code.length ≤ 8796093021952) (hH : f.hs.length ≤ 4398046510976) :
    Calls Tryz.prog 29 #[.agg #[.string x.name, .int .i64 x.params, .int .i64 x.locals, x.cv, x.hv]] w fun e w' => ∃ y : Fv, e = .returned (.agg #[.string y.name, .int .i64 y.params, .int .i64 y.locals, y.cv, y.hv]) ∧ CpF w f y w' := by
  have hr1 := h.2.2.2.1
  have hr2 := h.2.2.2.2
  obtain ⟨a1, c1, a2, c2, rfl⟩ := h.parts
  simp only at hr1 hr2 ⊢
  have HC := hide (fun i p (hp : f.hs[i]? = some p) => hr2.elem zH hp)
  obtain ⟨_, _, _, e2, hlc, hlm, _⟩ := hr2
  cases e2
  obtain ⟨L, hL⟩ : ∃ L, Hid (f.hs.length = L) := ⟨_, rfl⟩
  rw [unhide hL] at hH hlc HC ⊢
  obtain ⟨CL, hCL⟩ : ∃ L, Hid (f.code.length = L) := ⟨_, rfl⟩
  have HR1 := hide hr1
  have HI := hide hI
  rw [unhide hCL] at HR1 ⊢
  clear hr1 h hI
  obtain ⟨W3, hW3⟩ : ∃ x, Hid (((w.alloc (.cells #[.string f.name, .int .i64 f.params, .int .i64 f.locals, .slice a1 CL c1, .slice a2 L c2] 45)).alloc (.cells #[.string { data := #[] }, .int .i64 0, .int .i64 0, .slice none 0 0, .slice none 0 0] 45)).alloc (.cells #[.string f.name, .int .i64 f.params, .int .i64 f.locals, .slice a1 CL c1, .slice a2 L c2] 45) = x) := ⟨_, rfl⟩
  have HB3 := hide (boxes3 _ _ _ _ _ _ _ (unhide hW3))
  go_enter Tryz.func29, Tryz.ntmps29
  go_wp2_with fail
  rw [unhide hW3]
  have hcp := copyI_any (w := W3) (lv := .slice a1 CL c1) (l := f.code) (by have := (unhide HR1).below (unhide HB3).2.2.2.1 (Nat.le_refl _); rw [unhide hCL]; exact this) (unhide HI)
  refine hcp.mono ?_
  clear hcp
  rintro e w4 ⟨v1, rfl, hG1⟩
  obtain ⟨va, vcap, ev, _⟩ := hG1.1.shape
  rw [unhide hCL] at ev
  subst ev
  have HG1 := hide hG1
  have HB4 : Hid (w4.heap[w.heap.size]? = some (.cells #[.string f.name, .int .i64 f.params, .int .i64 f.locals, .slice a1 CL c1, .slice a2 L c2] 45 (0, 0)) ∧ w4.heap[w.heap.size + 1]? = some (.cells #[.string { data := #[] }, .int .i64 0, .int .i64 0, .slice none 0 0, .slice none 0 0] 45 (0, 0)) ∧ w4.heap[w.heap.size + 1 + 1]? = some (.cells #[.string f.name, .int .i64 f.params, .int .i64 f.locals, .slice a1 CL c1, .slice a2 L c2] 45 (0, 0)) ∧ Below w.heap.size w w4) := by
    obtain ⟨b1, b2, b3, b4, b5⟩ := unhide HB3
    have k := hG1.2.1
    exact ⟨(k.block _ (by omega)).trans b1, (k.block _ (by omega)).trans b2, (k.block _ (by omega)).trans b3, b4.trans (k.mono (by omega))⟩
  have HG2 : Hid (∀ k, va.map (fun a => a.block) = some k → w.heap.size + 3 ≤ k) := fun k hk => by
    have := hG1.2.2 k (by cases va with | none => cases hk | some a => exact hk)
    rw [(unhide HB3).2.2.2.2] at this; exact this
  clear hG1
  have b0 := (box5o (unhide HB4).2.2.1).2.2.2.1
  have b1 := (box5o (unhide HB4).2.2.1).2.2.2.2.2.1 3
  have b2 := (box5o (unhide HB4).2.2.1).2.2.2.2.2.2
  go_wp2_with fail
  obtain ⟨W5, hW5⟩ : ∃ x, Hid (w4.setCell ⟨w.heap.size + 1 + 1, 3, none⟩ (.slice va CL vcap) = x) := ⟨_, rfl⟩
  rw [unhide hW5]
  have HF5 : Hid (Fr (fun k => k = w.heap.size + 1 + 1) w4 W5) := by rw [← unhide hW5]; exact (Fr.refl (fun k => k = w.heap.size + 1 + 1) w4).setCell ⟨w.heap.size + 1 + 1, 3, none⟩ (.inr rfl) _
  have HB5 : Hid (W5.heap[w.heap.size]? = some (.cells #[.string f.name, .int .i64 f.params, .int .i64 f.locals, .slice a1 CL c1, .slice a2 L c2] 45 (0, 0)) ∧ W5.heap[w.heap.size + 1]? = some (.cells #[.string { data := #[] }, .int .i64 0, .int .i64 0, .slice none 0 0, .slice none 0 0] 45 (0, 0)) ∧ W5.heap[w.heap.size + 1 + 1]? = some (.cells #[.string f.name, .int .i64 f.params, .int .i64 f.locals, .slice va CL vcap, .slice a2 L c2] 45 (0, 0)) ∧ Below w.heap.size w W5) := by
    obtain ⟨q1, q2, q3, q4⟩ := unhide HB4
    have l1 := (box5o q1).2.2.2.2.2.2
    have l2 := (box5o q2).2.2.2.2.2.2
    refine ⟨((unhide HF5).block _ l1 (by omega)).trans q1, ((unhide HF5).block _ l2 (by omega)).trans q2, ?_, q4.trans ((unhide HF5).below (by omega) (fun k hk e => by omega))⟩
    rw [← unhide hW5, setCell_block q3]; rfl
  clear b0 b1 b2
  go_loopg [4, 5] L (fun g t4 t5 wr => ∃ (i : Nat) (v : Value), Hid (i + g = L) ∧ t4 = v ∧ t5 = .int .i64 (i : Int) ∧ Hid (Gx W5 4 enH (f.hs.take i) v wr))
  case atStart => exact ⟨0, _, by unfold Hid; omega, rfl, rfl, ⟨by simpa [flt] using Ro.nil _ _, Below.refl _ _, by simp [Value.ownBlock]⟩⟩
  case round =>
    obtain ⟨i, v, hi, rfl, rfl, hG⟩ := hrel
    have k4 : wr.cell? ⟨w.heap.size, 4, none⟩ = some (.slice a2 L c2) := by
      obtain ⟨q1, q2, q3, q4⟩ := unhide HB5
      exact (box5o (((unhide hG).2.1.block _ (box5o q1).2.2.2.2.2.2).trans q1)).2.2.2.2.1
    by_cases hlt : i < L
    · have hil : i < f.hs.length := by rw [unhide hL]; exact hlt
      obtain ⟨p, hp⟩ : ∃ p, f.hs[i]? = some p := ⟨_, List.getElem?_eq_getElem hil⟩
      obtain ⟨b, off, cap', e, _, _, hb, hcs⟩ := unhide HC i p hp
      cases e
      have hs : Below w.heap.size w wr := (unhide HB5).2.2.2.trans ((unhide hG).2.1.mono (unhide HB5).2.2.2.size)
      have k0 : wr.cell? ⟨b, off + i * 4, none⟩ = some (.int .i64 p.frm) := (hs.cell (p := ⟨b, off + i * 4, none⟩) hb).trans (hcs 0 _ rfl)
      have k1 : wr.cell? ⟨b, off + i * 4 + 1, none⟩ = some (.int .i64 p.to) := (hs.cell (p := ⟨b, off + i * 4 + 1, none⟩) hb).trans (hcs 1 _ rfl)
      have k2 : wr.cell? ⟨b, off + i * 4 + 2, none⟩ = some (.int .i64 p.target) := (hs.cell (p := ⟨b, off + i * 4 + 2, none⟩) hb).trans (hcs 2 _ rfl)
      have k3 : wr.cell? ⟨b, off + i * 4 + 3, none⟩ = some (.int .i64 p.height) := (hs.cell (p := ⟨b, off + i * 4 + 3, none⟩) hb).trans (hcs 3 _ rfl)
      have hbr := Nat.lt_of_lt_of_le hb hs.size
      have i0 : (0 : Int) ≤ (i : Int) := by omega
      have i1 : (i : Int) < (L : Int) := by omega
      have htl : (f.hs.take i).length = i := by simp; omega
      have HRo := hide (unhide hG).1
      have HP := hide hp
      clear hs hcs hp
      go_wp2_with (first | (at_builtin; refine appH rfl _ _ rfl _ (f.hs.take i) rfl ((unhide HRo).keep (fun g hg => Below.heap_alloc _ _ _ ((unhide HRo).lt g hg))) ⟨wr.heap.size, 0, none⟩ 1 p rfl (new_cells _ _ _) (by rw [htl]; omega) ?_))
      intro v' w' hr hg hat
      have hG2 := (unhide hG).push hr (by rw [htl]) hg (by simpa using hat)
      rw [← take_push (unhide HP)] at hG2
      have HG3 := hide hG2
      clear hr hg hat hG2
      go_wp2_with fail
      go_roundg (gk - 1)
      case measure => have := unhide hi; omega
      case rel => exact ⟨i + 1, v', by have := unhide hi; unfold Hid; omega, rfl, by go_num, HG3⟩
    · have hiL : i = L := by have := unhide hi; omega
      subst hiL
      have hG0 := unhide hG
      rw [List.take_of_length_le (by rw [unhide hL]; exact Nat.le_refl _)] at hG0
      obtain ⟨ha, hcap, ev, _⟩ := hG0.1.shape
      rw [unhide hL] at ev
      subst ev
      have HG0 := hide hG0
      clear hG hG0
      obtain ⟨z0, z1, z2, z3, z4, zf, zl⟩ := box5o (((unhide HG0).2.1.block _ (box5o (unhide HB5).2.2.1).2.2.2.2.2.2).trans (unhide HB5).2.2.1)
      obtain ⟨y0, y1, y2, y3, y4, yf, yl⟩ := box5o (((unhide HG0).2.1.block _ (box5o (unhide HB5).2.1).2.2.2.2.2.2).trans (unhide HB5).2.1)
      have zf4 := zf 4
      have yf0 := yf 0
      have yf1 := yf 1
      have yf2 := yf 2
      have yf3 := yf 3
      have yf4 := yf 4

      go_wp2_with fail
      refine bodyPost_ret (v := .agg #[.string f.name, .int .i64 f.params, .int .i64 f.locals, .slice va CL vcap, .slice ha i hcap]) ?_ rfl ?_
      · rw [results_cell_one rfl]
        go_simp
      · refine ⟨⟨f.name, f.params, f.locals, .slice va CL vcap, .slice ha i hcap⟩, rfl, ?_⟩
        have fL : Fr (fun k => k = w.heap.size + 1 ∨ k = w.heap.size + 1 + 1) wr _ := ((((((Fr.refl (fun k => k = w.heap.size + 1 ∨ k = w.heap.size + 1 + 1) wr).setCell ⟨w.heap.size + 1 + 1, 4, none⟩ (.inr (.inr rfl)) (.slice ha i hcap)).setCell ⟨w.heap.size + 1, 0, none⟩ (.inr (.inl rfl)) (.string f.name)).setCell ⟨w.heap.size + 1, 1, none⟩ (.inr (.inl rfl)) (.int .i64 f.params)).setCell ⟨w.heap.size + 1, 2, none⟩ (.inr (.inl rfl)) (.int .i64 f.locals)).setCell ⟨w.heap.size + 1, 3, none⟩ (.inr (.inl rfl)) (.slice va CL vcap)).setCell ⟨w.heap.size + 1, 4, none⟩ (.inr (.inl rfl)) (.slice ha i hcap)
        have s5 : w4.heap.size ≤ W5.heap.size := (unhide HF5).size
        have o1 : ∀ b, (Value.slice va CL vcap).ownBlock = some b → w.heap.size + 3 ≤ b ∧ b < w4.heap.size := fun b hb => ⟨unhide HG2 b (by cases va with | none => cases hb | some a => exact hb), (unhide HG1).1.lt b hb⟩
        have z5 := (box5o (unhide HB5).2.2.1).2.2.2.2.2.2
        have o2 : ∀ b, (Value.slice ha i hcap).ownBlock = some b → W5.heap.size ≤ b := (unhide HG0).2.2
        refine ⟨⟨rfl, rfl, rfl, ?_, ?_⟩, ?_, fun b hb => ?_, fun b hb hb2 => ?_⟩
        · have r := (((unhide HG1).1.fr (unhide HF5) (fun b hb (e : b = w.heap.size + 1 + 1) => by have := o1 b hb; omega)).fr (S := fun _ => False) (Fr.of_below (unhide HG0).2.1) (fun _ _ e => e)).fr fL (fun b hb (e : b = w.heap.size + 1 ∨ b = w.heap.size + 1 + 1) => by have := o1 b hb; omega)
          exact r
        · exact (unhide HG0).1.fr fL (fun b hb (e : b = w.heap.size + 1 ∨ b = w.heap.size + 1 + 1) => by have := o2 b hb; omega)
        · exact ((unhide HB5).2.2.2.trans ((unhide HG0).2.1.mono (unhide HB5).2.2.2.size)).trans (fL.below (by omega) (fun k hk (e : k = w.heap.size + 1 ∨ k = w.heap.size + 1 + 1) => by omega))
        · rcases hb with hb | hb
          · have := o1 b hb; omega
          · have := o2 b hb; omega
        · have := o1 b hb; have := o2 b hb2; omega
end Go.Proofs.YtbkfnmkfbdoadaaGreatDoor
