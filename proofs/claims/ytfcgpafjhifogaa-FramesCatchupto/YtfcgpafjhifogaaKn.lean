/-
  ints; known.
-/
import Derived.Test.YtfcgpafjhifogaaEnt
namespace Go.Proofs.Ytfcgpafjhifogaa
open Go.RowKit
set_option linter.unusedVariables false
set_option linter.unusedSimpArgs false
/-- A number as its cell. -/
def enN (x : Int) : List Value := [.int .i64 x]
theorem zN : ∀ p, (enN p).length = 1 := fun _ => rfl
def two (l : List Int) : List (Int × Int) := l.map fun n => (2, n)
theorem two_length (l : List Int) : (two l).length = l.length := by simp [two]
set_option maxRecDepth 100000 in
set_option maxHeartbeats 1600000 in
theorem ints_any {w : World} {lv : Value} {l : List Int} (h : Rx w 1 lv l.length (flt enN l)) (hN : l.length ≤ 1048576) :
    Calls Try.prog 33 #[lv] w fun e w' => ∃ v', e = .returned v' ∧ Gx w 2 enI (two l) v' w' := by
  have HC := hide (fun i p (hp : l[i]? = some p) => h.elem zN hp)
  obtain ⟨_, a, cap, rfl, hlc, hcm, _⟩ := h
  obtain ⟨L, hL⟩ : ∃ L, Hid (l.length = L) := ⟨_, rfl⟩
  rw [unhide hL] at hN hlc HC ⊢
  unfold maxLen at hcm
  go_enter Try.func33, Try.ntmps33
  go_wp2_with fail
  go_loopg [3, 4] L (fun g t3 t4 wr => ∃ (i : Nat) (v : Value), Hid (i + g = L) ∧ t3 = v ∧ t4 = .int .i64 (i : Int) ∧ Hid (Gx w 2 enI ((two l).take i) v wr))
  case atStart => exact ⟨0, _, by unfold Hid; omega, rfl, rfl, ⟨by simpa [flt] using Ro.nil _ _, Below.refl _ _, by simp [Value.ownBlock]⟩⟩
  case round =>
    obtain ⟨i, v, hi, rfl, rfl, hG⟩ := hrel
    by_cases hlt : i < L
    · have hil : i < l.length := by rw [unhide hL]; exact hlt
      obtain ⟨p, hp⟩ : ∃ p, l[i]? = some p := ⟨_, List.getElem?_eq_getElem hil⟩
      have hp2 : (two l)[i]? = some (2, p) := by unfold two; rw [List.getElem?_map, hp]; rfl
      obtain ⟨b, off, cap', e, _, _, hb, hcs⟩ := unhide HC i p hp
      cases e
      have hs := (unhide hG).2.1
      have k0 : wr.cell? ⟨b, off + i, none⟩ = some (.int .i64 p) := by
        have := (hs.cell (p := ⟨b, off + i * 1 + 0, none⟩) hb).trans (hcs 0 _ rfl)
        rw [Nat.mul_one, Nat.add_zero] at this
        exact this
      have hbr := Nat.lt_of_lt_of_le hb hs.size
      have i0 : (0 : Int) ≤ (i : Int) := by omega
      have i1 : (i : Int) < (L : Int) := by omega
      have htl : ((two l).take i).length = i := by rw [List.length_take, two_length, unhide hL]; omega
      have HRo := hide (unhide hG).1
      have HP := hide hp2
      clear hs hcs hp hp2
      go_wp2_with (first | (at_builtin; refine appV rfl _ _ rfl _ ((two l).take i) rfl ((unhide HRo).keep (fun g hg => Below.heap_alloc _ _ _ ((unhide HRo).lt g hg))) ⟨wr.heap.size, 0, none⟩ 1 (2, p) rfl (new_cells _ _ _) (by rw [htl]; omega) ?_))
      intro v' w' hr hg hat
      have hG2 := (unhide hG).push hr (by rw [htl]) hg (by simpa using hat)
      rw [← take_push (unhide HP)] at hG2
      have HG2 := hide hG2
      clear hr hg hat hG2
      go_wp2_with fail
      go_roundg (gk - 1)
      case measure => have := unhide hi; omega
      case rel => exact ⟨i + 1, v', by have := unhide hi; unfold Hid; omega, rfl, by go_num, HG2⟩
    · have hiL : i = L := by have := unhide hi; omega
      subst hiL
      have hG0 := unhide hG
      rw [List.take_of_length_le (by rw [two_length, unhide hL]; exact Nat.le_refl _)] at hG0
      have HG0 := hide hG0
      clear hG hG0
      go_wp2_with fail
      go_ret
      exact ⟨_, rfl, unhide HG0⟩
/-- A whole block, read as a row. -/
theorem rx_blk {T : Type} {en : T → List Value} {sz : Nat} (hz : ∀ x, (en x).length = sz) {W : World} {q : Nat} {arr : Array Value} {e : TypeId} (h : W.heap[q]? = some (.cells arr e)) (l : List T) (hl : flt en l = arr.toList) (n : Nat) (hn : l.length = n) (hm : n ≤ maxLen) : Rx W sz (.slice (some ⟨q, 0, none⟩) n n) n (flt en l) := by
  subst hn
  obtain ⟨c, _, lq⟩ := blk_cells h
  refine ⟨flt_length hz l, _, _, rfl, Nat.le_refl _, hm, fun _ => ⟨q, 0, rfl, lq, fun j hj => ?_⟩⟩
  rw [c, Nat.zero_add, hl]
  simp
def knM : Fc := ⟨⟨#[109, 97, 105, 110]⟩, 0, 1, [], []⟩
def knF : Fc := ⟨⟨#[102]⟩, 2, 3, [], [⟨0, 4, 7, 1⟩, ⟨2, 6, 9, 0⟩]⟩
/-- The program of the examples. -/
def kn : Pg := ⟨[], [knM, knF]⟩
set_option maxRecDepth 100000 in
set_option maxHeartbeats 3200000 in
theorem known_any (w : World) : Calls Try.prog 56 #[] w fun e w' => ∃ v, e = .returned v ∧ PgV w' v kn ∧ Below w.heap.size w w' := by
  go_enter Try.func56, Try.ntmps56
  go_wp2_with fail
  refine bodyPost_ret (v := .agg #[.slice none 0 0, .slice (some ⟨w.heap.size + 1 + 1 + 1, 0, none⟩) 2 2]) ?_ rfl ?_
  · rw [results_cell_one rfl]
    go_simp
  · refine ⟨_, rfl, ?_, ((Below.alloc3 w _ _ _).alloc (by simp only [World.size_alloc]; omega) _)⟩
    have keep : ∀ (V : World) (o : Obj) (b : Nat) (y : Obj), V.heap[b]? = some y → (V.alloc o).heap[b]? = some y := fun V o b y h => (Below.heap_alloc V o b (Array.getElem?_eq_some_iff.1 h).1).trans h
    have new : ∀ (V : World) (o : Obj) (b : Nat), V.heap.size = b → (V.alloc o).heap[b]? = some o := fun V o b h => by rw [← h]; exact heap_alloc_new V o
    refine ⟨_, _, rfl, by simpa [flt, kn] using Rx.nil _ 3, [⟨⟨#[109, 97, 105, 110]⟩, 0, 1, .slice none 0 0, .slice none 0 0⟩, ⟨⟨#[102]⟩, 2, 3, .slice none 0 0, .slice (some ⟨w.heap.size + 1, 0, none⟩) 2 2⟩], rfl, rx_blk zF (new _ _ _ (by simp)) _ rfl 2 rfl (by unfold maxLen; omega), fun i f x hf hx => ?_⟩
    match i, hf, hx with
    | 0, hf, hx =>
      cases hf; cases hx
      exact ⟨rfl, rfl, rfl, by simpa [flt, knM] using Rx.nil _ 2, by simpa [flt, knM] using Rx.nil _ 4⟩
    | 1, hf, hx =>
      cases hf; cases hx
      exact ⟨rfl, rfl, rfl, by simpa [flt, knF] using Rx.nil _ 2, rx_blk zH (keep _ _ _ _ (keep _ _ _ _ (new _ _ _ (by simp)))) knF.hs rfl 2 rfl (by unfold maxLen; omega)⟩
    | i + 2, hf, hx => simp [kn] at hf
end Go.Proofs.Ytfcgpafjhifogaa
