/-
  Items: a new row.
-/
import Derived.Test.YthmcalapofjmfaaAhead
import Derived.Laws.CopyOwn
import Derived.Laws.MakeOwn
namespace Go.Proofs.Ythmcalapofjmfaa
open Go.RowKit Go.Maps
set_option linter.unusedVariables false

theorem size9 : (Try.prog.info? 9).map (fun i => i.size) = some 1 := by kernel_rfl

theorem splice_whole {α : Type} (L cs : List α) (h : L.length = cs.length) : splice L 0 cs = cs := by
  simp [splice, ← h]

set_option maxRecDepth 100000 in
set_option maxHeartbeats 800000 in
theorem items_any {w : World} {p b : Nat} {v : Value} {rs : List ByteArray} (h : Ix w p b v rs) (hl : rs.length ≤ 11999999999999) : Calls Try.prog 11 #[.pointer (some ⟨p, 0, none⟩)] w fun e w' =>
    e = .returned (.slice (some ⟨w.heap.size, 0, none⟩) rs.length rs.length) ∧ w'.ownsRow 0 9 1 (.slice (some ⟨w.heap.size, 0, none⟩) rs.length rs.length) rs.length (rs.map Value.string) ∧ Below w.heap.size w w' := by
  have HR := hide (Rt.own h.own)
  obtain ⟨a, cap, e⟩ := h.shape
  have hc := h.c0
  have hp := h.lt
  rw [e] at hc HR
  obtain ⟨n, hn⟩ : ∃ n, Hid (rs.length = n) := ⟨_, rfl⟩
  rw [unhide hn] at hc hl ⊢
  clear e h
  obtain ⟨i0, hi0, hz0, hz1, hz2⟩ := info_parts Try.info9
  have hmk := run_make (P := Try.prog) w 26 9 i0 _ Try.underlying26 hi0 hz0 .i64 .i64 (n : Int) (n : Int) (by omega) (Int.le_refl _) (by rw [hz2]; omega) (by omega)
  rw [hz1, Int.toNat_natCast, Nat.mul_one] at hmk
  obtain ⟨Z, hZ⟩ : ∃ Z, Hid (madeCells (Value.string ⟨#[]⟩).cells n = Z) := ⟨_, rfl⟩
  rw [unhide hZ] at hmk
  have hZs : Hid (Z.toList.length = n) := by rw [← unhide hZ]; unfold Hid; simpa using size_madeCells _ n
  have HMK := hide hmk
  clear hi0 hz0 hz1 hz2 hmk
  have hmk := unhide HMK
  go_enter Try.func11, Try.ntmps11
  go_wp2_with (first | (refine wpList_copy_splice rfl _ _ 26 26 rfl 9 Try.underlying26 size9 (some ⟨w.heap.size, 0, none⟩) a n n n cap rfl rfl w.heap.size 0 Z.toList 9 (by rw [Array.toArray_toList]; exact heap_alloc_new _ _) (rs.map Value.string) (by rw [List.length_map, unhide hn]; simp) ?_ (by rw [List.length_map, unhide hn, unhide hZs]; omega) (by simp [Value.oneCell']) w.heap.size w ((Below.refl _ _).alloc (Nat.le_refl _) _) (Nat.le_refl _) ?_) | go_in)
  · intro hpos
    obtain ⟨a', cap', e, h1, h2, h3⟩ := unhide HR
    cases e
    obtain ⟨b', off', rfl, _⟩ := h3 0 hpos
    refine ⟨⟨b', off', none⟩, rfl, fun j u hj => ?_⟩
    have hjl : j < rs.length := by
      by_cases q : j < rs.length
      · exact q
      · rw [List.getElem?_eq_none (by omega)] at hj; cases hj
    rw [List.getElem?_eq_getElem hjl] at hj
    obtain ⟨b2, off2, e2, hb2, hc2⟩ := h3 j hjl
    cases e2
    have e3 : tx rs j = rs[j] := by simp [tx, List.getD, List.getElem?_eq_getElem hjl]
    rw [e3] at hc2
    rw [Go.WideShapes.add_plain, World.cell?_of_block (Below.heap_alloc _ _ _ hb2), hc2]
    simpa using hj
  · intro w' hw' hB
    have HW := hide hw'
    clear hw'
    go_wp2
    go_ret
    refine ⟨rfl, ⟨by simp [unhide hn], .inr ⟨w.heap.size, n, _, rfl, Nat.zero_le _, unhide HW, Nat.le_refl _, by unfold maxLen; omega, ?_, ?_⟩⟩, hB⟩
    · rw [splice_whole _ _ (by rw [unhide hZs, List.length_map, unhide hn])]; simp [unhide hn]
    · rw [splice_whole _ _ (by rw [unhide hZs, List.length_map, unhide hn])]; rw [List.toList_toArray, Nat.mul_one]; exact List.take_of_length_le (by rw [List.length_map, unhide hn]; exact Nat.le_refl _)
end Go.Proofs.Ythmcalapofjmfaa
