/-
  ApartRegs: operands, numbers and the other lists lie apart.
-/
import Derived.Test.YtiamoinhmkhaoaaAr0
namespace Go.Proofs.Ytiamoinhmkhaoaa
open Go.RowKit
set_option linter.unusedVariables false
set_option linter.unusedSimpArgs false
theorem OW.uniq {T U : Type} {en : T → List Value} {sz : Nat} {P : World → U → T → Prop} {bl : T → Nat → Prop} {Z : Nat → Prop} {w : World} {v : Value} {us : List U} {xs : List T} (h : OW en sz P bl Z w v us xs) {x y : T} (hx : x ∈ xs) (hy : y ∈ xs) {k : Nat} (h1 : bl x k) (h2 : bl y k) : x = y := by
  obtain ⟨i, hi, rfl⟩ := List.getElem_of_mem hx
  obtain ⟨j, hj, rfl⟩ := List.getElem_of_mem hy
  by_cases q : i = j
  · subst q; rfl
  · exact absurd h2 (h.ap i j _ _ k q (List.getElem?_eq_getElem hi) (List.getElem?_eq_getElem hj) h1)
theorem OW.mem {T U : Type} {en : T → List Value} {sz : Nat} {P : World → U → T → Prop} {bl : T → Nat → Prop} {Z : Nat → Prop} {w : World} {v : Value} {us : List U} {xs : List T} (h : OW en sz P bl Z w v us xs) {x : T} (hx : x ∈ xs) : (∃ u, P w u x) ∧ ∀ k, bl x k → v.ownBlock ≠ some k := by
  obtain ⟨i, hi, rfl⟩ := List.getElem_of_mem hx
  exact ⟨⟨_, h.el i _ _ (List.getElem?_eq_getElem (by rw [← h.len]; exact hi)) (List.getElem?_eq_getElem hi)⟩, fun k hk => (h.eb i _ k (List.getElem?_eq_getElem hi) hk).2.2⟩
section
variable {w : World} {v : Value} {us : List (List Bk)} {cs : List TC} {Z : Nat → Prop}
theorem vC_nG (h : OWC Z w v us cs) {a : Value} (ha : a ∈ vC cs) {q : Nat} (hq : a.ownBlock = some q) {c' : TC} (hc' : c' ∈ cs) : ¬ blG c' q := fun hg => by
  obtain ⟨c, hc, ha2⟩ := List.mem_flatMap.1 ha
  obtain rfl := h.uniq hc hc' (.inr (vX_bl ha2 hq)) (blG_Cd hg)
  obtain ⟨⟨u, Z', ho⟩, _⟩ := h.mem hc
  obtain ⟨x, hx, ha3⟩ := List.mem_flatMap.1 ha2
  have hbx : blB x q := .inr (.inl (vT_bl ha3 hq))
  rcases hg with hg | ⟨x', hx', hg⟩
  · exact (ho.mem hx).2 q hbx hg
  · obtain rfl := ho.uniq hx hx' hbx (blF_B hg)
    obtain ⟨⟨b, hP⟩, _⟩ := ho.mem hx
    obtain ⟨t, ht, ha4⟩ := List.mem_flatMap.1 ha3
    have hbt := vI_bl ha4 hq
    rcases hg with hg | ⟨t', ht', hg⟩
    · exact (hP.ow.mem ht).2 q hbt hg
    · obtain rfl := hP.ow.uniq ht ht' hbt (.inr (.inl hg))
      obtain ⟨⟨i, hI⟩, _⟩ := hP.ow.mem ht
      rcases List.mem_cons.1 ha4 with rfl | ha5
      · exact hI.ae q hq hg
      · obtain ⟨r, hr, rfl⟩ := List.mem_map.1 ha5
        exact (hI.asp r q hr hq).2 hg
theorem nC_nG (h : OWC Z w v us cs) {a : Value} (ha : a ∈ nC cs) {q : Nat} (hq : a.ownBlock = some q) {c' : TC} (hc' : c' ∈ cs) : ¬ blG c' q := fun hg => by
  obtain ⟨c, hc, ha2⟩ := List.mem_flatMap.1 ha
  obtain rfl := h.uniq hc hc' (.inr (nX_bl ha2 hq)) (blG_Cd hg)
  obtain ⟨⟨u, Z', ho⟩, _⟩ := h.mem hc
  obtain ⟨x, hx, rfl⟩ := List.mem_map.1 ha2
  have hbx : blB x q := .inr (.inr hq)
  rcases hg with hg | ⟨x', hx', hg⟩
  · exact (ho.mem hx).2 q hbx hg
  · obtain rfl := ho.uniq hx hx' hbx (blF_B hg)
    obtain ⟨⟨b, hP⟩, _⟩ := ho.mem hx
    have h1 := hP.nb q hq
    rcases hg with hg | ⟨t', ht', hg⟩
    · exact h1.2.1 hg
    · exact h1.2.2 t' ht' (.inr (.inl hg))
theorem vn_ap (h : OWC Z w v us cs) {a b : Value} (ha : a ∈ vC cs) (hb : b ∈ nC cs) : Ap2 a b := fun q qa qb => by
  obtain ⟨c, hc, ha2⟩ := List.mem_flatMap.1 ha
  obtain ⟨c', hc', hb2⟩ := List.mem_flatMap.1 hb
  obtain rfl := h.uniq hc hc' (.inr (vX_bl ha2 qa)) (.inr (nX_bl hb2 qb))
  obtain ⟨⟨u, Z', ho⟩, _⟩ := h.mem hc
  obtain ⟨x, hx, ha3⟩ := List.mem_flatMap.1 ha2
  obtain ⟨x', hx', rfl⟩ := List.mem_map.1 hb2
  obtain rfl := ho.uniq hx hx' (.inr (.inl (vT_bl ha3 qa))) (.inr (.inr qb))
  obtain ⟨⟨b, hP⟩, _⟩ := ho.mem hx
  obtain ⟨t, ht, hbt⟩ := vT_bl ha3 qa
  exact (hP.nb q qb).2.2 t ht hbt
end
set_option maxRecDepth 100000 in
set_option maxHeartbeats 3200000 in
theorem apartO0 (w0 : World) : Calls Try.prog 27 #[.slice none 0 0] w0 fun e w' => e = .returned (.bool true) ∧ Below w0.heap.size w0 w' := by
  have hz0 := hide (Below.refl w0.heap.size w0)
  go_enter Try.func27, Try.ntmps27
  go_wp2_with fail
  go_loopg [3] 0 (fun g t3 wr => Hid (0 = g) ∧ t3 = .int .i64 0 ∧ Hid (Below w0.heap.size w0 wr))
  case atStart => exact ⟨rfl, rfl, hz0⟩
  case round =>
    clear hz0
    obtain ⟨hi, rfl, hW⟩ := hrel
    go_wp2_with fail
    go_loopg [5, 6] 0 (fun g t5 t6 wr => Hid (0 = g) ∧ t5 = .slice none 0 0 ∧ t6 = .int .i64 0 ∧ Hid (Below w0.heap.size w0 wr))
    case atStart => exact ⟨rfl, rfl, rfl, hW⟩
    case round =>
      clear hW hi
      obtain ⟨hi, rfl, rfl, hW⟩ := hrel
      go_wp2_with fail
      go_loopg [9] 0 (fun g t9 wr => Hid (0 = g) ∧ t9 = .int .i64 0 ∧ Hid (Below w0.heap.size w0 wr))
      case atStart => exact ⟨rfl, rfl, hW⟩
      case round =>
        clear hW hi
        obtain ⟨hi, rfl, hW⟩ := hrel
        go_wp2_with fail
        go_ret
        exact ⟨rfl, unhide hW⟩
set_option maxRecDepth 100000 in
set_option maxHeartbeats 3200000 in
theorem apartI0 (w0 : World) : Calls Try.prog 28 #[.slice none 0 0] w0 fun e w' => e = .returned (.bool true) ∧ Below w0.heap.size w0 w' := by
  have hz0 := hide (Below.refl w0.heap.size w0)
  go_enter Try.func28, Try.ntmps28
  go_wp2_with fail
  go_loopg [3] 0 (fun g t3 wr => Hid (0 = g) ∧ t3 = .int .i64 0 ∧ Hid (Below w0.heap.size w0 wr))
  case atStart => exact ⟨rfl, rfl, hz0⟩
  case round =>
    clear hz0
    obtain ⟨hi, rfl, hW⟩ := hrel
    go_wp2_with fail
    go_loopg [5, 6] 0 (fun g t5 t6 wr => Hid (0 = g) ∧ t5 = .slice none 0 0 ∧ t6 = .int .i64 0 ∧ Hid (Below w0.heap.size w0 wr))
    case atStart => exact ⟨rfl, rfl, rfl, hW⟩
    case round =>
      clear hW hi
      obtain ⟨hi, rfl, rfl, hW⟩ := hrel
      go_wp2_with fail
      go_loopg [9] 0 (fun g t9 wr => Hid (0 = g) ∧ t9 = .int .i64 0 ∧ Hid (Below w0.heap.size w0 wr))
      case atStart => exact ⟨rfl, rfl, hW⟩
      case round =>
        clear hW hi
        obtain ⟨hi, rfl, hW⟩ := hrel
        go_wp2_with fail
        go_ret
        exact ⟨rfl, unhide hW⟩
end Go.Proofs.Ytiamoinhmkhaoaa
