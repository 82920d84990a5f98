/-
  Load, the document's.
-/
import Derived.Test.YtfoanikkngmeiaaDRo
namespace Go.Proofs.Ytfoanikkngmeiaa
open Go.RowKit
set_option linter.unusedVariables false
set_option linter.unusedSimpArgs false
/-- The document's heap in memory. -/
structure Rd (B : Nat) (w : World) (r : Nat) (bud sp : Int) (rv : Value) (os : List Ob) (xs : List Obv) : Prop where
  box : w.heap[r]? = some (.cells #[.int .i64 bud, .int .i64 sp, rv] 68)
  row : OO (fun k => B ≤ k ∧ k ≠ r) w rv os xs
  ge : B ≤ r
theorem Rd.fr {B : Nat} {w w' : World} {r : Nat} {bud sp : Int} {rv : Value} {os : List Ob} {xs : List Obv} {S : Nat → Prop} (h : Rd B w r bud sp rv os xs) (f : Fr S w w') (hS : ∀ k, B ≤ k → k < w.heap.size → ¬ S k) : Rd B w' r bud sp rv os xs :=
  have hr := (Array.getElem?_eq_some_iff.1 h.box).1
  ⟨(f.block r hr (hS r h.ge hr)).trans h.box, h.row.frZ staysO f (fun k hk hz => hS k hz.1 hk), h.ge⟩
theorem Rd.below {B : Nat} {w w' : World} {r : Nat} {bud sp : Int} {rv : Value} {os : List Ob} {xs : List Obv} (h : Rd B w r bud sp rv os xs) (f : Below w.heap.size w w') : Rd B w' r bud sp rv os xs :=
  h.fr (Fr.of_below (S := fun _ => False) f) (fun _ _ _ e => e)
/-- What the document's Load answers. -/
def DlP (w : World) (bud sp : Int) (os : List Ob) (e : Ending) (w' : World) : Prop :=
  Below w.heap.size w w' ∧ ((lRb os = false ∧ e = .returned (.tuple #[.pointer none, .bool false])) ∨
    (lRb os = true ∧ ∃ r rv xs, e = .returned (.tuple #[.pointer (some ⟨r, 0, none⟩), .bool true]) ∧ Rd w.heap.size w' r (max bud 0) (max sp 0) rv os xs))
set_option maxRecDepth 100000 in
set_option maxHeartbeats 3200000 in
theorem dload_any {w : World} {lv : Value} {os : List Ob} (h : OsV w lv os) (hN : os.length ≤ 1048576) (hS : ∀ o ∈ os, o.its.length ≤ 1048576 ∧ o.keys.length ≤ 1048576) (bud sp : Int) :
    Calls Try.prog 6 #[.int .i64 bud, .int .i64 sp, lv] w (DlP w bud sp os) := by
  have HV : Hid (∀ W v (o : Ob), Below w.heap.size w W → ObA W v o → o ∈ os → Calls Try.prog 21 #[lv, v] W fun e w' => e = .returned (.bool (oRb (kinds os) o)) ∧ Below W.heap.size W w') := fun W v o b ha ho => robject_any ha (h.below b (Nat.le_refl _)) hN (hS o ho).1 (hS o ho).2
  have HC : Hid (∀ W, Below w.heap.size w W → Calls Try.prog 5 #[lv] W (CpOs W os)) := fun W b => copyOs_any (h.below b (Nat.le_refl _)) hN hS
  have HO := hide h
  obtain ⟨a, cap, rfl, hlc, hcm⟩ := h.shape
  obtain ⟨L, hL⟩ : ∃ L, Hid (os.length = L) := ⟨_, hide rfl⟩
  rw [unhide hL] at hN hlc HO HV HC ⊢
  unfold maxLen at hcm
  obtain ⟨V, hV⟩ : ∃ V, Hid (oRb (kinds os) = V) := ⟨_, hide rfl⟩
  rw [unhide hV] at HV
  clear h hS
  go_enter Try.func6, Try.ntmps6
  go_wp2_with fail
  go_loopg [8] L (fun gg t8 wr => ∃ (i : Nat), Hid (i + gg = L) ∧ t8 = .int .i64 (i : Int) ∧ Hid (Below w.heap.size w wr ∧ (os.take i).all V = true))
  case atStart => exact ⟨0, by unfold Hid; omega, rfl, hide ⟨Below.refl _ _, by simp⟩⟩
  case round =>
    obtain ⟨i, hi, rfl, hG⟩ := hrel
    by_cases hlt : i < L
    · obtain ⟨f, hf⟩ : ∃ f, os[i]? = some f := ⟨_, List.getElem?_eq_getElem (by rw [unhide hL]; exact hlt)⟩
      obtain ⟨b, off, ia, ic, ka, kc, ea, hb, k0, k1, k2, k3, k4, k5, hx, hy, hsl, hsm, htl, htm⟩ := ((unhide HO).below (unhide hG).1 (Nat.le_refl _)).six hf
      cases ea
      have i0 : (0 : Int) ≤ (i : Int) := by omega
      have i1 : (i : Int) < (L : Int) := by omega
      have HVV := hide (unhide HV wr _ f (unhide hG).1 ⟨_, _, rfl, hx, hy⟩ (List.mem_of_getElem? hf))
      have HF := hide hf
      clear hx hy hf
      unfold maxLen at hsm htm
      go_wp2_with fail
      refine (unhide HVV).mono ?_
      rintro e w1 ⟨rfl, b1⟩
      have HB1 := hide (bl_past (unhide hG).1 b1)
      clear b1 HVV k0 k1 k2 k3 k4 k5
      cases hv : V f with
      | true =>
        have HB3 : Hid (Below w.heap.size w w1 ∧ (os.take (i + 1)).all V = true) := ⟨unhide HB1, all_take (unhide hG).2 (unhide HF) hv⟩
        clear hG hv HF HB1
        go_wp2_with fail
        go_roundg (gk - 1)
        case measure => have := unhide hi; omega
        case rel => exact ⟨i + 1, by have := unhide hi; unfold Hid; omega, by go_num, HB3⟩
      | false =>
        have HR : Hid (lRb os = false) := hide (by unfold lRb; rw [unhide hV]; exact all_no (unhide HF) hv)
        clear hG hv HF HO HV HC
        go_wp2_with fail
        go_ret2
        exact ⟨unhide HB1, .inl ⟨unhide HR, rfl⟩⟩
    · have hiL : i = L := by have := unhide hi; omega
      subst hiL
      have HR : Hid (lRb os = true) := hide (by
        unfold lRb
        rw [unhide hV]
        have := (unhide hG).2
        rw [List.take_of_length_le (by rw [unhide hL]; exact Nat.le_refl _)] at this
        exact this)
      have HB := hide (unhide hG).1
      have HNW := hide (rnew_any wr bud sp)
      have HC2 := hide (fun O => unhide HC (wr.alloc O) (bl_past (unhide HB) (bl_box wr O)))
      clear hG HO HV HC
      go_wp2_with fail
      refine (unhide HNW).mono ?_
      rintro e w1 ⟨rfl, e1⟩
      subst e1
      go_wp2_with fail
      refine (unhide HC2 _).mono ?_
      rintro e w2 ⟨v2, xs, rfl, g1, g2⟩
      obtain ⟨va, vc, rfl, _, _⟩ := g1.row.shape
      have hbx : w2.heap[wr.heap.size]? = some (.cells #[.int .i64 (max bud 0), .int .i64 (max sp 0), .slice none 0 0] 68) := (g2.block _ (by simp)).trans (heap_alloc_new wr _)
      obtain ⟨q, qf, ql⟩ := blk_cells hbx
      have q0 := q 0
      have q1 := q 1
      have q2 := q 2
      simp only [List.getElem?_toArray, List.getElem?_cons_zero, List.getElem?_cons_succ] at q0 q1 q2
      have qf2 := qf 2
      have HX : Hid (∀ u, (w2.setCell ⟨wr.heap.size, 2, none⟩ u).heap[wr.heap.size]? = some (.cells #[.int .i64 (max bud 0), .int .i64 (max sp 0), u] 68)) := hide (fun u => by
        simp only [World.setCell, Array.getElem?_modify, if_true, hbx, Option.map_some]
        simp)
      have HG := hide (And.intro g1 g2)
      clear g1 g2 q qf hbx HC2 HNW
      go_wp2_with fail
      go_ret2
      obtain ⟨g1, g2⟩ := unhide HG
      have hB := bl_past (unhide HB) (bl_box wr (.cells #[.int .i64 (max bud 0), .int .i64 (max sp 0), .slice none 0 0] 68))
      have f3 : Fr (fun k => k = wr.heap.size) w2 (w2.setCell ⟨wr.heap.size, 2, none⟩ (.slice va os.length vc)) := (Fr.refl (fun k => k = wr.heap.size) w2).setCell ⟨wr.heap.size, 2, none⟩ (.inr rfl) _
      have hsz := (unhide HB).size
      have hs2 := g2.size
      simp only [World.size_alloc] at hs2
      refine ⟨(bl_past hB g2).trans (f3.below (by omega) (fun k hk e => by omega)), .inr ⟨unhide HR, _, _, xs, rfl, ⟨unhide HX _, ?_, hsz⟩⟩⟩
      have g4 := g1.frZ staysO f3 (fun k hk hz e => by simp only [World.size_alloc] at hz; omega)
      exact g4.mono (fun k hk hz => by simp only [World.size_alloc] at hz; exact ⟨by omega, by omega⟩)
end Go.Proofs.Ytfoanikkngmeiaa
