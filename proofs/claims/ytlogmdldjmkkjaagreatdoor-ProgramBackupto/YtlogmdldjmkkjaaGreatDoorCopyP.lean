/-
  A copy of a program.
-/
import Derived.Test.YtlogmdldjmkkjaaGreatDoorOwn
namespace Go.Proofs.YtlogmdldjmkkjaaGreatDoor
open Go.RowKit
set_option linter.unusedVariables false
set_option maxRecDepth 100000 in
set_option maxHeartbeats 1600000 in
theorem copyI_any {w : World} {lv : Value} {l : List (Int × Int)} (h : Rx w 2 lv l.length (flt enI l)) (hN : l.length ≤ 8796093021952) :
    Calls Tryz.prog 81 #[lv] w fun e w' => ∃ v', e = .returned v' ∧ Gx w 2 enI l v' w' := by
  have HC := hide (fun i p (hp : l[i]? = some p) => h.elem zI hp)
  obtain ⟨_, a, cap, rfl, hlc, hcm, _⟩ := h
  obtain ⟨L, hL⟩ : ∃ L, Hid (l.length = L) := ⟨_, rfl⟩
  rw [unhide hL] at hN hlc HC ⊢
  go_enter Tryz.func81, Tryz.ntmps81
  go_wp2_with fail
  go_loopg [3, 4] L (fun g t3 t4 wr => ∃ (i : Nat) (v : Value), Hid (i + g = L) ∧ t3 = v ∧ t4 = .int .i64 (i : Int) ∧ Hid (Gx w 2 enI (l.take i) v wr))
  case atStart => exact ⟨0, _, by unfold Hid; omega, rfl, rfl, ⟨by simpa [flt] using Ro.nil _ _, Below.refl _ _, by simp [Value.ownBlock]⟩⟩
  case round =>
    obtain ⟨i, v, hi, rfl, rfl, hG⟩ := hrel
    by_cases hlt : i < L
    · have hil : i < l.length := by rw [unhide hL]; exact hlt
      obtain ⟨p, hp⟩ : ∃ p, l[i]? = some p := ⟨_, List.getElem?_eq_getElem hil⟩
      obtain ⟨b, off, cap', e, _, _, hb, hcs⟩ := unhide HC i p hp
      cases e
      have hs := (unhide hG).2.1
      have k0 : wr.cell? ⟨b, off + i * 2, none⟩ = some (.int .i64 p.1) := (hs.cell (p := ⟨b, off + i * 2, none⟩) hb).trans (hcs 0 _ rfl)
      have k1 : wr.cell? ⟨b, off + i * 2 + 1, none⟩ = some (.int .i64 p.2) := (hs.cell (p := ⟨b, off + i * 2 + 1, none⟩) hb).trans (hcs 1 _ rfl)
      have hbr := Nat.lt_of_lt_of_le hb hs.size
      have i0 : (0 : Int) ≤ (i : Int) := by omega
      have i1 : (i : Int) < (L : Int) := by omega
      have htl : (l.take i).length = i := by simp; omega
      have HRo := hide (unhide hG).1
      have HP := hide hp
      clear hs hcs hp
      go_wp2_with (first | (at_builtin; refine appI rfl _ _ rfl _ (l.take i) rfl ((unhide HRo).keep (fun g hg => Below.heap_alloc _ _ _ ((unhide HRo).lt g hg))) ⟨wr.heap.size, 0, none⟩ 1 p rfl (new_cells _ _ _) (by rw [htl]; omega) ?_))
      intro v' w' hr hg hat
      have hG2 := (unhide hG).push hr (by rw [htl]) hg (by simpa using hat)
      rw [← take_push (unhide HP)] at hG2
      have HG2 := hide hG2
      clear hr hg hat hG2
      go_wp2_with fail
      go_roundg (gk - 1)
      case measure => have := unhide hi; omega
      case rel => exact ⟨i + 1, v', by have := unhide hi; unfold Hid; omega, rfl, by go_num, HG2⟩
    · have hiL : i = L := by have := unhide hi; omega
      subst hiL
      have hG0 := unhide hG
      rw [List.take_of_length_le (by rw [unhide hL]; exact Nat.le_refl _)] at hG0
      have HG0 := hide hG0
      clear hG hG0
      go_wp2_with fail
      go_ret
      exact ⟨_, rfl, unhide HG0⟩

set_option linter.unusedVariables false
set_option linter.unusedSimpArgs false
set_option maxRecDepth 100000
/-- A function copied. -/
def CpF (w : World) (f : Fc) (y : Fv) (w' : World) : Prop := FnO w' f y ∧ Below w.heap.size w w' ∧ (∀ b, (y.cv.ownBlock = some b ∨ y.hv.ownBlock = some b) → w.heap.size ≤ b) ∧ (∀ b, y.cv.ownBlock = some b → y.hv.ownBlock ≠ some b)
theorem boxes3 (w : World) (u v x : Array Value) (e1 e2 e3 : TypeId) {W : World} (h : (((w.alloc (.cells u e1)).alloc (.cells v e2)).alloc (.cells x e3)) = W) :
    W.heap[w.heap.size]? = some (.cells u e1 (0, 0)) ∧ W.heap[w.heap.size + 1]? = some (.cells v e2 (0, 0)) ∧ W.heap[w.heap.size + 1 + 1]? = some (.cells x e3 (0, 0)) ∧ Below w.heap.size w W ∧ W.heap.size = w.heap.size + 3 := by
  subst h
  have h1 := heap_alloc_new w (.cells u e1)
  have h2 := heap_alloc_new (w.alloc (.cells u e1)) (.cells v e2)
  have h3 := heap_alloc_new ((w.alloc (.cells u e1)).alloc (.cells v e2)) (.cells x e3)
  simp only [World.size_alloc] at h2 h3
  refine ⟨(Below.heap_alloc _ _ _ (by simp; omega)).trans ((Below.heap_alloc _ _ _ (by simp)).trans h1), (Below.heap_alloc _ _ _ (by simp)).trans h2, h3, (((Below.refl _ w).alloc (Nat.le_refl _) _).alloc (by simp) _).alloc (by simp; omega) _, by simp⟩
theorem box5 {w : World} {b : Nat} {u0 u1 u2 u3 u4 : Value} {t : TypeId} (h : w.heap[b]? = some (.cells #[u0, u1, u2, u3, u4] t (0, 0))) :
    w.cell? ⟨b, 0, none⟩ = some u0 ∧ w.cell? ⟨b, 1, none⟩ = some u1 ∧ w.cell? ⟨b, 2, none⟩ = some u2 ∧ w.cell? ⟨b, 3, none⟩ = some u3 ∧ w.cell? ⟨b, 4, none⟩ = some u4 ∧ (∀ o, w.frozen? ⟨b, o, none⟩ = false) ∧ b < w.heap.size := by
  refine ⟨by simp [World.cell?, h], by simp [World.cell?, h], by simp [World.cell?, h], by simp [World.cell?, h], by simp [World.cell?, h], fun o => by simp [World.frozen?, h], (Array.getElem?_eq_some_iff.1 h).1⟩
set_option maxHeartbeats 6400000 in
theorem cpF_any {w : World} {f : Fc} {x : Fv} (h : FnV w f x) (hI : f.code.length ≤ 8796093021952) (hH : f.hs.length ≤ 4398046510976) :
    Calls Tryz.prog 41 #[.agg #[.string x.name, .int .i64 x.params, .int .i64 x.locals, x.cv, x.hv]] w fun e w' => ∃ y : Fv, e = .returned (.agg #[.string y.name, .int .i64 y.params, .int .i64 y.locals, y.cv, y.hv]) ∧ CpF w f y w' := by
  have hr1 := h.2.2.2.1
  have hr2 := h.2.2.2.2
  obtain ⟨a1, c1, a2, c2, rfl⟩ := h.parts
  simp only at hr1 hr2 ⊢
  have HC := hide (fun i p (hp : f.hs[i]? = some p) => hr2.elem zH hp)
  obtain ⟨_, _, _, e2, hlc, hlm, _⟩ := hr2
  cases e2
  obtain ⟨L, hL⟩ : ∃ L, Hid (f.hs.length = L) := ⟨_, rfl⟩
  rw [unhide hL] at hH hlc HC ⊢
  obtain ⟨CL, hCL⟩ : ∃ L, Hid (f.code.length = L) := ⟨_, rfl⟩
  have HR1 := hide hr1
  have HI := hide hI
  rw [unhide hCL] at HR1 ⊢
  clear hr1 h hI
  obtain ⟨W3, hW3⟩ : ∃ x, Hid (((w.alloc (.cells #[.string f.name, .int .i64 f.params, .int .i64 f.locals, .slice a1 CL c1, .slice a2 L c2] 73)).alloc (.cells #[.string { data := #[] }, .int .i64 0, .int .i64 0, .slice none 0 0, .slice none 0 0] 73)).alloc (.cells #[.string f.name, .int .i64 f.params, .int .i64 f.locals, .slice a1 CL c1, .slice a2 L c2] 73) = x) := ⟨_, rfl⟩
  have HB3 := hide (boxes3 _ _ _ _ _ _ _ (unhide hW3))
  go_enter Tryz.func41, Tryz.ntmps41
  go_wp2_with fail
  rw [unhide hW3]
  have hcp := copyI_any (w := W3) (lv := .slice a1 CL c1) (l := f.code) (by have := (unhide HR1).below (unhide HB3).2.2.2.1 (Nat.le_refl _); rw [unhide hCL]; exact this) (unhide HI)
  refine hcp.mono ?_
  clear hcp
  rintro e w4 ⟨v1, rfl, hG1⟩
  obtain ⟨va, vcap, ev, _⟩ := hG1.1.shape
  rw [unhide hCL] at ev
  subst ev
  have HG1 := hide hG1
  have HB4 : Hid (w4.heap[w.heap.size]? = some (.cells #[.string f.name, .int .i64 f.params, .int .i64 f.locals, .slice a1 CL c1, .slice a2 L c2] 73 (0, 0)) ∧ w4.heap[w.heap.size + 1]? = some (.cells #[.string { data := #[] }, .int .i64 0, .int .i64 0, .slice none 0 0, .slice none 0 0] 73 (0, 0)) ∧ w4.heap[w.heap.size + 1 + 1]? = some (.cells #[.string f.name, .int .i64 f.params, .int .i64 f.locals, .slice a1 CL c1, .slice a2 L c2] 73 (0, 0)) ∧ Below w.heap.size w w4) := by
    obtain ⟨b1, b2, b3, b4, b5⟩ := unhide HB3
    have k := hG1.2.1
    exact ⟨(k.block _ (by omega)).trans b1, (k.block _ (by omega)).trans b2, (k.block _ (by omega)).trans b3, b4.trans (k.mono (by omega))⟩
  have HG2 : Hid (∀ k, va.map (fun a => a.block) = some k → w.heap.size + 3 ≤ k) := fun k hk => by
    have := hG1.2.2 k (by cases va with | none => cases hk | some a => exact hk)
    rw [(unhide HB3).2.2.2.2] at this; exact this
  clear hG1
  have b0 := (box5 (unhide HB4).2.2.1).2.2.2.1
  have b1 := (box5 (unhide HB4).2.2.1).2.2.2.2.2.1 3
  have b2 := (box5 (unhide HB4).2.2.1).2.2.2.2.2.2
  go_wp2_with fail
  obtain ⟨W5, hW5⟩ : ∃ x, Hid (w4.setCell ⟨w.heap.size + 1 + 1, 3, none⟩ (.slice va CL vcap) = x) := ⟨_, rfl⟩
  rw [unhide hW5]
  have HF5 : Hid (Fr (fun k => k = w.heap.size + 1 + 1) w4 W5) := by rw [← unhide hW5]; exact (Fr.refl (fun k => k = w.heap.size + 1 + 1) w4).setCell ⟨w.heap.size + 1 + 1, 3, none⟩ (.inr rfl) _
  have HB5 : Hid (W5.heap[w.heap.size]? = some (.cells #[.string f.name, .int .i64 f.params, .int .i64 f.locals, .slice a1 CL c1, .slice a2 L c2] 73 (0, 0)) ∧ W5.heap[w.heap.size + 1]? = some (.cells #[.string { data := #[] }, .int .i64 0, .int .i64 0, .slice none 0 0, .slice none 0 0] 73 (0, 0)) ∧ W5.heap[w.heap.size + 1 + 1]? = some (.cells #[.string f.name, .int .i64 f.params, .int .i64 f.locals, .slice va CL vcap, .slice a2 L c2] 73 (0, 0)) ∧ Below w.heap.size w W5) := by
    obtain ⟨q1, q2, q3, q4⟩ := unhide HB4
    have l1 := (box5 q1).2.2.2.2.2.2
    have l2 := (box5 q2).2.2.2.2.2.2
    refine ⟨((unhide HF5).block _ l1 (by omega)).trans q1, ((unhide HF5).block _ l2 (by omega)).trans q2, ?_, q4.trans ((unhide HF5).below (by omega) (fun k hk e => by omega))⟩
    rw [← unhide hW5, setCell_block q3]; rfl
  clear b0 b1 b2
  go_loopg [4, 5] L (fun g t4 t5 wr => ∃ (i : Nat) (v : Value), Hid (i + g = L) ∧ t4 = v ∧ t5 = .int .i64 (i : Int) ∧ Hid (Gx W5 4 enH (f.hs.take i) v wr))
  case atStart => exact ⟨0, _, by unfold Hid; omega, rfl, rfl, ⟨by simpa [flt] using Ro.nil _ _, Below.refl _ _, by simp [Value.ownBlock]⟩⟩
  case round =>
    obtain ⟨i, v, hi, rfl, rfl, hG⟩ := hrel
    have k4 : wr.cell? ⟨w.heap.size, 4, none⟩ = some (.slice a2 L c2) := by
      obtain ⟨q1, q2, q3, q4⟩ := unhide HB5
      exact (box5 (((unhide hG).2.1.block _ (box5 q1).2.2.2.2.2.2).trans q1)).2.2.2.2.1
    by_cases hlt : i < L
    · have hil : i < f.hs.length := by rw [unhide hL]; exact hlt
      obtain ⟨p, hp⟩ : ∃ p, f.hs[i]? = some p := ⟨_, List.getElem?_eq_getElem hil⟩
      obtain ⟨b, off, cap', e, _, _, hb, hcs⟩ := unhide HC i p hp
      cases e
      have hs : Below w.heap.size w wr := (unhide HB5).2.2.2.trans ((unhide hG).2.1.mono (unhide HB5).2.2.2.size)
      have k0 : wr.cell? ⟨b, off + i * 4, none⟩ = some (.int .i64 p.frm) := (hs.cell (p := ⟨b, off + i * 4, none⟩) hb).trans (hcs 0 _ rfl)
      have k1 : wr.cell? ⟨b, off + i * 4 + 1, none⟩ = some (.int .i64 p.to) := (hs.cell (p := ⟨b, off + i * 4 + 1, none⟩) hb).trans (hcs 1 _ rfl)
      have k2 : wr.cell? ⟨b, off + i * 4 + 2, none⟩ = some (.int .i64 p.target) := (hs.cell (p := ⟨b, off + i * 4 + 2, none⟩) hb).trans (hcs 2 _ rfl)
      have k3 : wr.cell? ⟨b, off + i * 4 + 3, none⟩ = some (.int .i64 p.height) := (hs.cell (p := ⟨b, off + i * 4 + 3, none⟩) hb).trans (hcs 3 _ rfl)
      have hbr := Nat.lt_of_lt_of_le hb hs.size
      have i0 : (0 : Int) ≤ (i : Int) := by omega
      have i1 : (i : Int) < (L : Int) := by omega
      have htl : (f.hs.take i).length = i := by simp; omega
      have HRo := hide (unhide hG).1
      have HP := hide hp
      clear hs hcs hp
      go_wp2_with (first | (at_builtin; refine appH rfl _ _ rfl _ (f.hs.take i) rfl ((unhide HRo).keep (fun g hg => Below.heap_alloc _ _ _ ((unhide HRo).lt g hg))) ⟨wr.heap.size, 0, none⟩ 1 p rfl (new_cells _ _ _) (by rw [htl]; omega) ?_))
      intro v' w' hr hg hat
      have hG2 := (unhide hG).push hr (by rw [htl]) hg (by simpa using hat)
      rw [← take_push (unhide HP)] at hG2
      have HG3 := hide hG2
      clear hr hg hat hG2
      go_wp2_with fail
      go_roundg (gk - 1)
      case measure => have := unhide hi; omega
      case rel => exact ⟨i + 1, v', by have := unhide hi; unfold Hid; omega, rfl, by go_num, HG3⟩
    · have hiL : i = L := by have := unhide hi; omega
      subst hiL
      have hG0 := unhide hG
      rw [List.take_of_length_le (by rw [unhide hL]; exact Nat.le_refl _)] at hG0
      obtain ⟨ha, hcap, ev, _⟩ := hG0.1.shape
      rw [unhide hL] at ev
      subst ev
      have HG0 := hide hG0
      clear hG hG0
      obtain ⟨z0, z1, z2, z3, z4, zf, zl⟩ := box5 (((unhide HG0).2.1.block _ (box5 (unhide HB5).2.2.1).2.2.2.2.2.2).trans (unhide HB5).2.2.1)
      obtain ⟨y0, y1, y2, y3, y4, yf, yl⟩ := box5 (((unhide HG0).2.1.block _ (box5 (unhide HB5).2.1).2.2.2.2.2.2).trans (unhide HB5).2.1)
      have zf4 := zf 4
      have yf0 := yf 0
      have yf1 := yf 1
      have yf2 := yf 2
      have yf3 := yf 3
      have yf4 := yf 4

      go_wp2_with fail
      refine bodyPost_ret (v := .agg #[.string f.name, .int .i64 f.params, .int .i64 f.locals, .slice va CL vcap, .slice ha i hcap]) ?_ rfl ?_
      · rw [results_cell_one rfl]
        go_simp
      · refine ⟨⟨f.name, f.params, f.locals, .slice va CL vcap, .slice ha i hcap⟩, rfl, ?_⟩
        have fL : Fr (fun k => k = w.heap.size + 1 ∨ k = w.heap.size + 1 + 1) wr _ := ((((((Fr.refl (fun k => k = w.heap.size + 1 ∨ k = w.heap.size + 1 + 1) wr).setCell ⟨w.heap.size + 1 + 1, 4, none⟩ (.inr (.inr rfl)) (.slice ha i hcap)).setCell ⟨w.heap.size + 1, 0, none⟩ (.inr (.inl rfl)) (.string f.name)).setCell ⟨w.heap.size + 1, 1, none⟩ (.inr (.inl rfl)) (.int .i64 f.params)).setCell ⟨w.heap.size + 1, 2, none⟩ (.inr (.inl rfl)) (.int .i64 f.locals)).setCell ⟨w.heap.size + 1, 3, none⟩ (.inr (.inl rfl)) (.slice va CL vcap)).setCell ⟨w.heap.size + 1, 4, none⟩ (.inr (.inl rfl)) (.slice ha i hcap)
        have s5 : w4.heap.size ≤ W5.heap.size := (unhide HF5).size
        have o1 : ∀ b, (Value.slice va CL vcap).ownBlock = some b → w.heap.size + 3 ≤ b ∧ b < w4.heap.size := fun b hb => ⟨unhide HG2 b (by cases va with | none => cases hb | some a => exact hb), (unhide HG1).1.lt b hb⟩
        have z5 := (box5 (unhide HB5).2.2.1).2.2.2.2.2.2
        have o2 : ∀ b, (Value.slice ha i hcap).ownBlock = some b → W5.heap.size ≤ b := (unhide HG0).2.2
        refine ⟨⟨rfl, rfl, rfl, ?_, ?_⟩, ?_, fun b hb => ?_, fun b hb hb2 => ?_⟩
        · have r := (((unhide HG1).1.fr (unhide HF5) (fun b hb (e : b = w.heap.size + 1 + 1) => by have := o1 b hb; omega)).fr (S := fun _ => False) (Fr.of_below (unhide HG0).2.1) (fun _ _ e => e)).fr fL (fun b hb (e : b = w.heap.size + 1 ∨ b = w.heap.size + 1 + 1) => by have := o1 b hb; omega)
          exact r
        · exact (unhide HG0).1.fr fL (fun b hb (e : b = w.heap.size + 1 ∨ b = w.heap.size + 1 + 1) => by have := o2 b hb; omega)
        · exact ((unhide HB5).2.2.2.trans ((unhide HG0).2.1.mono (unhide HB5).2.2.2.size)).trans (fL.below (by omega) (fun k hk (e : k = w.heap.size + 1 ∨ k = w.heap.size + 1 + 1) => by omega))
        · rcases hb with hb | hb
          · have := o1 b hb; omega
          · have := o2 b hb; omega
        · have := o1 b hb; have := o2 b hb2; omega

set_option linter.unusedVariables false
set_option linter.unusedSimpArgs false
set_option maxRecDepth 100000
theorem new_cells2 (w : World) (X : Obj) (arr : Array Value) (e : TypeId) : ∀ j z, arr.toList[j]? = some z → ((w.alloc X).alloc (.cells arr e)).cell? ((⟨w.heap.size + 1, 0, none⟩ : Addr).add j) = some z := by
  have := new_cells (w.alloc X) arr e
  rw [World.size_alloc] at this
  exact this
set_option maxHeartbeats 6400000 in
theorem cpP_any {w : World} {v : Value} {p : Pg} (h : PgV w v p) (hN : p.funcs.length ≤ 1048576000) (hC : p.consts.length ≤ 1048576000) (hBD : ∀ (i : Nat) (f : Fc), p.funcs[i]? = some f → f.code.length ≤ 1048576000 ∧ f.hs.length ≤ 1048576000) :
    Calls Tryz.prog 10 #[v] w fun e w' => ∃ cv fv xs, e = .returned (.agg #[cv, fv]) ∧ OP w.heap.size p xs cv fv w' ∧ Below w.heap.size w w' := by
  have HBD := hide hBD
  clear hBD
  obtain ⟨cv, fv, rfl, hc, hf⟩ := h
  obtain ⟨xs0, hx1, hx2, hx3⟩ := hf
  have HXA := hide (fun i x (hp : xs0[i]? = some x) => hx2.elem zF hp)
  have HX3 := hide hx3
  obtain ⟨_, a, cap, rfl, _, _, _⟩ := hx2
  have HCA := hide (fun i c (hp : p.consts[i]? = some c) => hc.elem zC hp)
  obtain ⟨_, ca, ccap, rfl, _, _, _⟩ := hc
  clear hx3
  obtain ⟨NC, hNC⟩ : ∃ L, Hid (p.consts.length = L) := ⟨_, rfl⟩
  obtain ⟨NF, hNF⟩ : ∃ L, Hid (p.funcs.length = L) := ⟨_, rfl⟩
  rw [unhide hNC] at hC HCA ⊢
  have hX0 : Hid (xs0.length = NF) := by rw [hx1]; exact unhide hNF
  rw [unhide hNF] at hN hx1
  rw [hx1] at HXA ⊢
  clear hx1
  obtain ⟨w1, hw1⟩ : ∃ x, Hid ((w.alloc (.cells #[.slice ca NC ccap, .slice a NF cap] 25)).alloc (.cells #[.slice none 0 0, .slice none 0 0] 25) = x) := ⟨_, rfl⟩
  have hs1 : Hid (w1.heap.size = w.heap.size + 2) := by rw [← unhide hw1]; simp [Hid]
  have HP1 : Hid (w1.cell? ⟨w.heap.size, 0, none⟩ = some (.slice ca NC ccap) ∧ w1.cell? ⟨w.heap.size, 1, none⟩ = some (.slice a NF cap) ∧ Below w.heap.size w w1) := by
    have hb : Below (w.heap.size + 1) (w.alloc (.cells #[.slice ca NC ccap, .slice a NF cap] 25)) w1 := by rw [← unhide hw1]; exact ((Below.refl _ _).alloc (by simp) _)
    obtain ⟨b0, b1, b2, _⟩ := box2 hb
    exact ⟨b0, b1, b2⟩
  have HR1 : Hid (w1.heap[w.heap.size + 1]? = some (.cells #[.slice none 0 0, .slice none 0 0] 25 (0, 0))) := by
    rw [← unhide hw1]
    have := heap_alloc_new (w.alloc (.cells #[.slice ca NC ccap, .slice a NF cap] 25)) (.cells #[.slice none 0 0, .slice none 0 0] 25)
    simpa [Hid] using this
  have H0 : Hid (LP w1 (w.heap.size + 2) (w.heap.size + 1 + 1) [] [] (.slice none 0 0) (.slice none 0 0) (w1.alloc (.cells #[.slice none 0 0, .slice none 0 0] 25))) := by
    have e := unhide hs1
    refine ⟨(Below.refl _ _).alloc (by omega) _, by omega, ?_, by simpa [flt] using Ro.nil _ 3, by simpa [flt] using Ro.nil _ 5, by simp [Value.ownBlock], by simp [Value.ownBlock], by simp [Value.ownBlock]⟩
    rw [show w.heap.size + 1 + 1 = w1.heap.size by omega]
    exact heap_alloc_new _ _
  go_enter Tryz.func10, Tryz.ntmps10
  go_wp2_with fail
  rw [unhide hw1]
  go_loopg [4] NC (fun g t5 wr => ∃ (i : Nat) (cv : Value), Hid (i + g = NC) ∧ t5 = .int .i64 (i : Int) ∧ Hid (LP w1 (w.heap.size + 2) (w.heap.size + 1 + 1) (p.consts.take i) [] cv (.slice none 0 0) wr))
  case atStart => exact ⟨0, _, by unfold Hid; omega, rfl, H0⟩
  case round =>
    obtain ⟨i, cv, hi, rfl, hG⟩ := hrel
    have P0 := Below.heldIn (unhide hG).below (by simp) (unhide HP1).1
    have P1 := Below.heldIn (unhide hG).below (by simp) (unhide HP1).2.1
    obtain ⟨q0, q1, qf⟩ := (unhide hG).cells
    have hLQ : Hid (w.heap.size + 2 ≤ wr.heap.size) := by have := (unhide hG).qlt; unfold Hid; omega
    have HNB : Hid (∀ k, k < w.heap.size + 2 → ¬ (cv.ownBlock = some k)) := by unfold Hid; intro k hk e; have := (unhide hG).cb k e; omega
    have HNB2 : Hid (∀ k, k < w.heap.size + 2 → ¬ (cv.ownBlock = some k ∨ k = w.heap.size + 1 + 1)) := by
      unfold Hid; intro k hk e
      rcases e with e | e
      · have := (unhide hG).cb k e; omega
      · omega
    by_cases hlt : i < NC
    · have hil : i < p.consts.length := by rw [unhide hNC]; exact hlt
      obtain ⟨c, hp⟩ : ∃ c, p.consts[i]? = some c := ⟨_, List.getElem?_eq_getElem hil⟩
      obtain ⟨b, off, _, e, _, _, hb, hcs⟩ := unhide HCA i c hp
      cases e
      have e0 := Below.heldIn (unhide hG).below (by simp; omega) (Below.heldIn (unhide HP1).2.2 hb (hcs 0 _ rfl))
      have e1 := Below.heldIn (unhide hG).below (by simp; omega) (Below.heldIn (unhide HP1).2.2 hb (hcs 1 _ rfl))
      have e2 := Below.heldIn (unhide hG).below (by simp; omega) (Below.heldIn (unhide HP1).2.2 hb (hcs 2 _ rfl))
      rw [Nat.add_zero] at e0
      have i0 : (0 : Int) ≤ (i : Int) := by omega
      have i1 : (i : Int) < (NC : Int) := by omega
      have htl : (p.consts.take i).length = i := by simp; omega
      have HRo := hide (show Ro wr 3 cv i (flt enC (p.consts.take i)) by have := (unhide hG).co; rw [htl] at this; exact this)
      have hcA : (wr.alloc (.cells #[.int .i64 c.kind, .int .i64 c.n, .string c.text] 69)).cell? ⟨w.heap.size + 1 + 1, 0, none⟩ = some cv := (World.cell?_of_block (Below.heap_alloc _ _ _ (unhide hG).qlt)).trans q0
      have HP := hide hp
      clear hcs hp
      go_wp2_with fail
      refine wp_region_held_drew (S := (fun wx => Below (w.heap.size + 2) wr wx)) (by kernel_rfl) (Below.drawn (Below.refl _ _)) (fun hHeld => ?_)
      refine wpAnyH_take (i := 0) (oi := _) (v := .pointer (some ⟨w.heap.size + 1 + 1, 0, none⟩)) rfl (by kernel_rfl) (by kernel_rfl) (by kernel_rfl) (fun _ _ _ h => h) (Or.inl ⟨by rfl, (by intro w hSw; go_simp)⟩) (by assumption) ?_
      refine wpAnyH_take (i := 2) (oi := _) (v := .pointer (some ⟨w.heap.size, 0, none⟩)) rfl (by kernel_rfl) (by kernel_rfl) (by kernel_rfl) (fun _ _ _ h => h) (Or.inl ⟨by rfl, (by intro w hSw; go_simp)⟩) (by assumption) ?_
      refine wpAnyH_take (i := 3) (oi := _) (v := .slice (some ⟨b, off, none⟩) NC ccap) rfl (by kernel_rfl) (by kernel_rfl) (by kernel_rfl) (fun _ _ _ h => h) (Or.inl ⟨by rfl, (by intro w hSw; have hs0 := Below.heldIn hSw (by simp) P0; go_simp)⟩) (by assumption) ?_
      go_simp
      refine wpAnyH_take (i := 4) (oi := _) (v := .int .i64 (i : Int)) rfl (by kernel_rfl) (by kernel_rfl) (by kernel_rfl) (fun _ _ _ h => h) (Or.inl ⟨by rfl, (by intro w hSw; go_simp)⟩) (by assumption) ?_
      refine wpAnyH_take (i := 5) (oi := _) (v := .pointer (some ⟨b, off + i * 3, none⟩)) rfl (by kernel_rfl) (by kernel_rfl) (by kernel_rfl) (fun _ _ _ h => h) (Or.inl ⟨by rfl, (by intro w hSw; go_simp)⟩) (by assumption) ?_
      go_simp
      refine wpAnyH_take (i := 6) (oi := _) (v := .agg #[.int .i64 c.kind, .int .i64 c.n, .string c.text]) rfl (by kernel_rfl) (by kernel_rfl) (by kernel_rfl) (fun _ _ _ h => h) (Or.inl ⟨by rfl, (by intro w hSw; have hs0 := Below.heldIn hSw (by simp; omega) e0; have hs1 := Below.heldIn hSw (by simp; omega) e1; have hs2 := Below.heldIn hSw (by simp; omega) e2; go_simp)⟩) (by assumption) ?_
      go_simp
      refine wpAnyH_ready (rs := [1, 7]) (by kernel_rfl) (by simp) ?_
      refine AllReadyH.cons (o := _) rfl (fun K hK => ?_) (AllReadyH.cons (o := _) rfl (fun K hK => ?_) AllReadyH.nil)
      · go_simp
        refine hK.out _ _ hHeld (fun hHeld3 => ?_)
        clear hK K
        refine wpAnyH_ready (rs := [7]) (by kernel_rfl) (by simp) ?_
        refine AllReadyH.cons (o := _) rfl (fun K hK => ?_) AllReadyH.nil
        go_simp
        refine hK.out _ _ (Below.drawnAlloc (unhide hLQ) (.cells #[.int .i64 c.kind, .int .i64 c.n, .string c.text] 69)) (fun hHeld3 => ?_)
        clear hK K
        refine wpAnyH_ready (rs := [8]) (by kernel_rfl) (by simp) ?_
        refine AllReadyH.cons (o := _) rfl (fun K hK => ?_) AllReadyH.nil
        refine step_appC rfl _ _ rfl cv (p.consts.take i) i htl rfl ((unhide HRo).keep (fun g hg => Below.heap_alloc _ _ _ ((unhide HRo).lt g hg))) ⟨wr.heap.size, 0, none⟩ 1 c rfl (by exact new_cells wr _ 69) (by omega) ?_
        intro v' w5 hr5 hg5 hat5
        obtain ⟨va, vcap, rfl, _⟩ := hr5.shape
        have hg5' : (wr.alloc (.cells #[.int .i64 c.kind, .int .i64 c.n, .string c.text] 69)).grownBy w5 (Value.ownBlock _) := ⟨hg5.os, hg5.tape, hg5.output, hg5.size, hg5.block⟩
        obtain ⟨k0, kf, f5, f6, A⟩ := (unhide hG).pushC hr5 (by simp [htl]) hg5' (by simpa using hat5)
        have hs5 : Below (w.heap.size + 2) wr w5 := f5.below (unhide hLQ) (unhide HNB)
        have hs6 := (unhide f6).below (unhide hLQ) (unhide HNB2)
        clear hr5 hg5 hg5' hat5 f5 f6
        refine hK.out _ _ hs5 (fun hHeld5 => ?_)
        clear hK K
        go_simp
        refine wpAnyH_take (i := 9) (oi := _) (v := .pointer (some ⟨w.heap.size + 1 + 1, 0, none⟩)) rfl (by kernel_rfl) (by kernel_rfl) (by kernel_rfl) (fun _ _ _ h => h) (Or.inl ⟨by rfl, (by intro w hSw; go_simp)⟩) (by assumption) ?_
        go_simp
        refine wpAnyH_ready (rs := [10]) (by kernel_rfl) (by simp) ?_
        refine AllReadyH.cons (o := _) rfl (fun K hK => ?_) AllReadyH.nil
        have hb5 : w.heap.size + 1 + 1 < w5.heap.size := World.block_lt_of_cell? _ _ k0
        go_simp
        refine hK.out _ _ hs6 (fun hHeld6 => ?_)
        clear hK K
        refine wpAnyH_done (by kernel_rfl) ?_ _
        clear hcA hHeld hHeld3 hHeld5 hHeld6 k0 kf hs5 hs6 hb5
        rw [← take_push (unhide HP)] at A
        go_wp2_with fail
        go_roundg (gk - 1)
        case measure => have := unhide hi; omega
        case rel => exact ⟨i + 1, _, by have := unhide hi; unfold Hid; omega, by go_num, A⟩
      · go_simp
        refine hK.out _ _ (Below.drawnAlloc (unhide hLQ) (.cells #[.int .i64 c.kind, .int .i64 c.n, .string c.text] 69)) (fun hHeld3 => ?_)
        clear hK K
        refine wpAnyH_ready (rs := [1]) (by kernel_rfl) (by simp) ?_
        refine AllReadyH.cons (o := _) rfl (fun K hK => ?_) AllReadyH.nil
        go_simp
        refine hK.out _ _ (Below.drawnAlloc (unhide hLQ) (.cells #[.int .i64 c.kind, .int .i64 c.n, .string c.text] 69)) (fun hHeld3 => ?_)
        clear hK K
        refine wpAnyH_ready (rs := [8]) (by kernel_rfl) (by simp) ?_
        refine AllReadyH.cons (o := _) rfl (fun K hK => ?_) AllReadyH.nil
        refine step_appC rfl _ _ rfl cv (p.consts.take i) i htl rfl ((unhide HRo).keep (fun g hg => Below.heap_alloc _ _ _ ((unhide HRo).lt g hg))) ⟨wr.heap.size, 0, none⟩ 1 c rfl (by exact new_cells wr _ 69) (by omega) ?_
        intro v' w5 hr5 hg5 hat5
        obtain ⟨va, vcap, rfl, _⟩ := hr5.shape
        have hg5' : (wr.alloc (.cells #[.int .i64 c.kind, .int .i64 c.n, .string c.text] 69)).grownBy w5 (Value.ownBlock _) := ⟨hg5.os, hg5.tape, hg5.output, hg5.size, hg5.block⟩
        obtain ⟨k0, kf, f5, f6, A⟩ := (unhide hG).pushC hr5 (by simp [htl]) hg5' (by simpa using hat5)
        have hs5 : Below (w.heap.size + 2) wr w5 := f5.below (unhide hLQ) (unhide HNB)
        have hs6 := (unhide f6).below (unhide hLQ) (unhide HNB2)
        clear hr5 hg5 hg5' hat5 f5 f6
        refine hK.out _ _ hs5 (fun hHeld5 => ?_)
        clear hK K
        go_simp
        refine wpAnyH_take (i := 9) (oi := _) (v := .pointer (some ⟨w.heap.size + 1 + 1, 0, none⟩)) rfl (by kernel_rfl) (by kernel_rfl) (by kernel_rfl) (fun _ _ _ h => h) (Or.inl ⟨by rfl, (by intro w hSw; go_simp)⟩) (by assumption) ?_
        go_simp
        refine wpAnyH_ready (rs := [10]) (by kernel_rfl) (by simp) ?_
        refine AllReadyH.cons (o := _) rfl (fun K hK => ?_) AllReadyH.nil
        have hb5 : w.heap.size + 1 + 1 < w5.heap.size := World.block_lt_of_cell? _ _ k0
        go_simp
        refine hK.out _ _ hs6 (fun hHeld6 => ?_)
        clear hK K
        refine wpAnyH_done (by kernel_rfl) ?_ _
        clear hcA hHeld hHeld3 hHeld5 hHeld6 k0 kf hs5 hs6 hb5
        rw [← take_push (unhide HP)] at A
        go_wp2_with fail
        go_roundg (gk - 1)
        case measure => have := unhide hi; omega
        case rel => exact ⟨i + 1, _, by have := unhide hi; unfold Hid; omega, by go_num, A⟩
    · have hiL : NC = i := by have := unhide hi; omega
      subst hiL
      have hG0 := unhide hG
      rw [List.take_of_length_le (by rw [unhide hNC]; exact Nat.le_refl _)] at hG0
      have HG0 := hide hG0
      clear hG hG0 hi q0 q1 qf hLQ HNB HNB2 hlt
      go_wp2_with fail
      go_loopg [5] NF (fun g t5 wr => ∃ (i : Nat) (fv : Value) (xs : List Fv), Hid (i + g = NF) ∧ t5 = .int .i64 (i : Int) ∧ Hid (LP w1 (w.heap.size + 2) (w.heap.size + 1 + 1) p.consts xs cv fv wr) ∧ Hid (PT (w.heap.size + 3) cv fv (p.funcs.take i) xs wr))
      case atStart => exact ⟨0, _, [], by unfold Hid; omega, rfl, HG0, by simpa [Hid] using PT.nil _ _ _ _⟩
      case round =>
        clear HG0 P0 P1
        obtain ⟨i, fv, xs, hi, rfl, hG, hPT⟩ := hrel
        have P1 := Below.heldIn (unhide hG).below (by simp) (unhide HP1).2.1
        have hql := (unhide hG).qlt
        by_cases hlt : i < NF
        · have hil : i < xs0.length := by rw [unhide hX0]; exact hlt
          obtain ⟨x, hp⟩ : ∃ x, xs0[i]? = some x := ⟨_, List.getElem?_eq_getElem hil⟩
          obtain ⟨f, hpf⟩ : ∃ f, p.funcs[i]? = some f := ⟨_, List.getElem?_eq_getElem (by rw [unhide hNF]; exact hlt)⟩
          obtain ⟨b, off, _, e, _, _, hb, hcs⟩ := unhide HXA i x hp
          cases e
          have hFN := unhide HX3 i f x hpf hp
          obtain ⟨a1, c1, a2, c2, rfl⟩ := hFN.parts
          have e0 := Below.heldIn (unhide hG).below (by simp; omega) (Below.heldIn (unhide HP1).2.2 hb (hcs 0 _ rfl))
          have e1 := Below.heldIn (unhide hG).below (by simp; omega) (Below.heldIn (unhide HP1).2.2 hb (hcs 1 _ rfl))
          have e2 := Below.heldIn (unhide hG).below (by simp; omega) (Below.heldIn (unhide HP1).2.2 hb (hcs 2 _ rfl))
          have e3 := Below.heldIn (unhide hG).below (by simp; omega) (Below.heldIn (unhide HP1).2.2 hb (hcs 3 _ rfl))
          have e4 := Below.heldIn (unhide hG).below (by simp; omega) (Below.heldIn (unhide HP1).2.2 hb (hcs 4 _ rfl))
          rw [Nat.add_zero] at e0
          have i0 : (0 : Int) ≤ (i : Int) := by omega
          have i1 : (i : Int) < (NF : Int) := by omega
          have hW : Below w.heap.size w wr := (unhide HP1).2.2.trans ((unhide hG).below.mono (by omega))
          have HCP := hide (cpF_any (hFN.below hW (Nat.le_refl _)) (by have := (unhide HBD i f hpf).1; omega) (by have := (unhide HBD i f hpf).2; omega))
          have HPF := hide hpf
          clear hcs hp hFN hpf
          go_wp2_with fail
          refine (unhide HCP).mono ?_
          clear HCP
          rintro e w4 ⟨y, rfl, hC4⟩
          obtain ⟨f1, f2, f3, f4⟩ := hC4
          obtain ⟨ya, yc, ya2, yc2, rfl⟩ := f1.fnv.parts
          have hL4 := (unhide hG).keep f2
          have hs4 := f2.size
          have hPT4 := (unhide hPT).push f2 f1 (by omega) (unhide hG).co.lt (unhide hG).fo.lt f3 f4
          have hG4 : Hid (LP w1 (w.heap.size + 2) (w.heap.size + 1 + 1) p.consts xs cv fv (w4.alloc (.cells #[.string f.name, .int .i64 f.params, .int .i64 f.locals, .slice ya f.code.length yc, .slice ya2 f.hs.length yc2] 73))) := hL4.keep ((Below.refl _ _).alloc (Nat.le_refl _) _)
          have hxl : xs.length = i := by have := (unhide hPT).xl; rw [List.length_take, unhide hNF] at this; omega
          have HPT4 := hide hPT4
          clear hL4 hPT4 f2 f1 f3 f4 e0 e1 e2 e3 e4 P1 hPT
          obtain ⟨q0, q1, qf⟩ := (unhide hG4).cells
          have qf1 := qf 1
          have hql4 : w.heap.size + 1 + 1 < w4.heap.size := by omega
          clear hG hql
          have q1' : w4.cell? ⟨w.heap.size + 1 + 1, 1, none⟩ = some fv := by
            rw [← q1]; exact (World.cell?_of_block (Below.heap_alloc _ _ _ hql4)).symm
          have HRo := hide (show Ro _ 5 fv i (flt enF xs) by have := (unhide hG4).fo; rw [hxl] at this; exact this)
          go_wp2_with (first | (at_builtin; refine wpList_appF rfl _ _ rfl fv xs i hxl rfl ((unhide HRo).keep (fun g hg => Below.heap_alloc _ _ _ ((unhide HRo).lt g hg))) ⟨w4.heap.size + 1, 0, none⟩ 1 ⟨f.name, f.params, f.locals, .slice ya f.code.length yc, .slice ya2 f.hs.length yc2⟩ rfl (new_cells2 _ _ _ _) rfl rfl (by omega) ?_))
          intro v' w5 hr5 hg5 hat5
          obtain ⟨va, vcap, rfl, _⟩ := hr5.shape
          obtain ⟨k0, kf, f5, f6, A⟩ := (unhide hG4).pushF hr5 (by simp [hxl]) hg5 (by simpa using hat5)
          have hb5 : w.heap.size + 1 + 1 < w5.heap.size := World.block_lt_of_cell? _ _ k0
          have HPT5 : Hid (PT (w.heap.size + 3) cv (.slice va (i + 1) vcap) (p.funcs.take (i + 1)) (xs ++ [⟨f.name, f.params, f.locals, .slice ya f.code.length yc, .slice ya2 f.hs.length yc2⟩]) (w5.setCell ⟨w.heap.size + 1 + 1, 1, none⟩ (.slice va (i + 1) vcap))) := by
            rw [take_push (unhide HPF)]
            have hk := (unhide HPT4).fr (S := fun _ => False) (w' := w4.alloc (.cells #[.string f.name, .int .i64 f.params, .int .i64 f.locals, .slice ya f.code.length yc, .slice ya2 f.hs.length yc2] 73)) (Fr.of_below ((Below.refl _ _).alloc (Nat.le_refl _) _)) (fun _ _ _ _ _ e => e) (.inl rfl) (.inl rfl)
            refine hk.fr (unhide f6) (fun k x b hx hb e => ?_) (.inl rfl) ?_
            · obtain ⟨u1, u2, u3⟩ := hk.apart k x b hx hb
              rcases e with e | e
              · exact u3 e
              · omega
            · rcases hat5 with e | e
              · exact .inl e
              · exact .inr ⟨_, e, by simp⟩
          clear hr5 hg5 hat5 f5 f6 HPT4
          go_wp2_with fail
          go_roundg (gk - 1)
          case measure => have := unhide hi; omega
          case rel => exact ⟨i + 1, _, _, by have := unhide hi; unfold Hid; omega, by go_num, A, HPT5⟩
        · have hiL : NF = i := by have := unhide hi; omega
          subst hiL
          obtain ⟨q0, q1, qf⟩ := (unhide hG).cells
          have hbr := (unhide hG).below.block (w.heap.size + 1) (by omega) |>.trans (unhide HR1)
          have r0 : wr.cell? ⟨w.heap.size + 1, 0, none⟩ = some (.slice none 0 0) := by simp [World.cell?, hbr]
          have r1 : wr.cell? ⟨w.heap.size + 1, 1, none⟩ = some (.slice none 0 0) := by simp [World.cell?, hbr]
          have rf : ∀ o, wr.frozen? ⟨w.heap.size + 1, o, none⟩ = false := fun o => by simp [World.frozen?, hbr]
          have rf0 := rf 0
          have rf1 := rf 1
          have hrl : w.heap.size + 1 < wr.heap.size := by omega
          obtain ⟨cva, cvc, rfl, _⟩ := (unhide hG).co.shape
          obtain ⟨fva, fvc, rfl, _⟩ := (unhide hG).fo.shape
          have hxl : xs.length = NF := by have := (unhide hPT).xl; rw [List.length_take, unhide hNF] at this; omega
          subst hxl
          go_wp2_with fail
          refine bodyPost_ret (v := .agg #[.slice cva p.consts.length cvc, .slice fva xs.length fvc]) ?_ rfl ?_
          · rw [results_cell_one rfl]
            go_simp
          · refine ⟨_, _, xs, rfl, ?_, ?_⟩
            · have ho : OP (w.heap.size + 3) p xs (.slice cva p.consts.length cvc) (.slice fva xs.length fvc) wr := by
                refine ⟨(unhide hG).co, (unhide hG).fo, fun b hb => ?_, fun b hb => ?_, (unhide hG).ne, ?_⟩
                · have := (unhide hG).cb b hb; omega
                · have := (unhide hG).fb b hb; omega
                · have := unhide hPT
                  rw [List.take_of_length_le (by rw [unhide hNF]; exact Nat.le_refl _)] at this
                  exact this
              refine (ho.fr (S := fun k => k = w.heap.size + 1) (((Fr.refl (fun k => k = w.heap.size + 1) wr).setCell ⟨w.heap.size + 1, 0, none⟩ (.inr rfl) _).setCell ⟨w.heap.size + 1, 1, none⟩ (.inr rfl) _) (fun b hb (e : b = w.heap.size + 1) => by have := ho.ge hb; omega)).low (by omega)
            · exact ((unhide HP1).2.2.trans ((unhide hG).below.mono (by omega))).trans (Fr.below (((Fr.refl (fun k => k = w.heap.size + 1) wr).setCell ⟨w.heap.size + 1, 0, none⟩ (.inr rfl) _).setCell ⟨w.heap.size + 1, 1, none⟩ (.inr rfl) _) (by omega) (fun k hk (e : k = w.heap.size + 1) => by omega))
end Go.Proofs.YtlogmdldjmkkjaaGreatDoor
