/-
  Clones; slices.Sort of keys: its contract of the shelf, laid here in plain words; rightKeys.
-/
import Derived.Shelf.SortM.Plain
import Derived.Shelf.SortM.SortNone
import Derived.Test.YtfoanikkngmeiaaLVa
namespace Go.Proofs.Ytfoanikkngmeiaa
open Go.Shelf Go.RowKit
set_option linter.unusedVariables false
set_option linter.unusedSimpArgs false
def laysS_ren : Go.Shelf.Ren := ⟨fun | 5 => 42 | 8 => 47 | 7 => 46 | 19 => 57 | 20 => 58 | 10 => 48 | 11 => 49 | 12 => 50 | 13 => 51 | 14 => 52 | 15 => 53 | 16 => 54 | 17 => 55 | 18 => 56 | 30 => 59 | 31 => 60 | 32 => 61 | 33 => 62 | 34 => 63 | 35 => 64 | 40 => 65 | n => n, fun | 23 => 49 | 25 => 2 | 3 => 3 | 32 => 113 | 22 => 49 | 0 => 0 | 44 => 124 | 46 => 109 | 4 => 4 | 36 => 116 | 35 => 115 | 41 => 121 | 5 => 5 | 9 => 9 | 53 => 126 | 57 => 130 | 63 => 133 | 64 => 134 | n => n, fun | n => n⟩
theorem laysS : Go.Proofs.SlLaysM.n5 Try.prog laysS_ren := {
  mixed := by kernel_rfl
  f5 := ⟨Try.f42.name, by decide, Try.func42.trans (congrArg some (by kernel_rfl))⟩
  f7 := ⟨Try.f46.name, by decide, Try.func46.trans (congrArg some (by kernel_rfl))⟩
  f8 := Try.func47.trans (congrArg some (by kernel_rfl))
  f10 := ⟨Try.f48.name, by decide, Try.func48.trans (congrArg some (by kernel_rfl))⟩
  f11 := ⟨Try.f49.name, by decide, Try.func49.trans (congrArg some (by kernel_rfl))⟩
  f12 := ⟨Try.f50.name, by decide, Try.func50.trans (congrArg some (by kernel_rfl))⟩
  f13 := ⟨Try.f51.name, by decide, Try.func51.trans (congrArg some (by kernel_rfl))⟩
  f14 := ⟨Try.f52.name, by decide, Try.func52.trans (congrArg some (by kernel_rfl))⟩
  f15 := ⟨Try.f53.name, by decide, Try.func53.trans (congrArg some (by kernel_rfl))⟩
  f16 := ⟨Try.f54.name, by decide, Try.func54.trans (congrArg some (by kernel_rfl))⟩
  f17 := ⟨Try.f55.name, by decide, Try.func55.trans (congrArg some (by kernel_rfl))⟩
  f18 := ⟨Try.f56.name, by decide, Try.func56.trans (congrArg some (by kernel_rfl))⟩
  f19 := Try.func57.trans (congrArg some (by kernel_rfl))
  f20 := Try.func58.trans (congrArg some (by kernel_rfl))
  f30 := ⟨Try.f59.name, by decide, Try.func59.trans (congrArg some (by kernel_rfl))⟩
  f31 := Try.func60.trans (congrArg some (by kernel_rfl))
  f32 := Try.func61.trans (congrArg some (by kernel_rfl))
  f33 := ⟨Try.f62.name, by decide, Try.func62.trans (congrArg some (by kernel_rfl))⟩
  f34 := ⟨Try.f63.name, by decide, Try.func63.trans (congrArg some (by kernel_rfl))⟩
  f35 := ⟨Try.f64.name, by decide, Try.func64.trans (congrArg some (by kernel_rfl))⟩
  f40 := ⟨Try.f65.name, by decide, Try.func65.trans (congrArg some (by kernel_rfl))⟩
  t0 := Try.underlying0
  a0 := Try.isAgg0
  z0 := Try.sizeOf0
  v0 := Try.zeroValue0
  t3 := Try.underlying3
  a3 := Try.isAgg3
  z3 := Try.sizeOf3
  v3 := Try.zeroValue3
  t4 := Try.underlying4
  a4 := Try.isAgg4
  z4 := Try.sizeOf4
  v4 := Try.zeroValue4
  t5 := Try.underlying5
  a5 := Try.isAgg5
  z5 := Try.sizeOf5
  v5 := Try.zeroValue5
  t9 := Try.underlying9
  a9 := Try.isAgg9
  z9 := Try.sizeOf9
  v9 := Try.zeroValue9
  t22 := Try.underlying49
  a22 := Try.isAgg49
  z22 := Try.sizeOf49
  v22 := Try.zeroValue49
  t23 := Try.underlying49
  a23 := Try.isAgg49
  z23 := Try.sizeOf49
  v23 := Try.zeroValue49
  t25 := Try.underlying2
  a25 := Try.isAgg2
  z25 := Try.sizeOf2
  v25 := Try.zeroValue2
  t32 := Try.underlying113
  a32 := Try.isAgg113
  z32 := Try.sizeOf113
  v32 := Try.zeroValue113
  t35 := Try.underlying115
  a35 := Try.isAgg115
  z35 := Try.sizeOf115
  v35 := Try.zeroValue115
  t36 := Try.underlying116
  a36 := Try.isAgg116
  z36 := Try.sizeOf116
  v36 := Try.zeroValue116
  t41 := Try.underlying121
  a41 := Try.isAgg121
  z41 := Try.sizeOf121
  v41 := Try.zeroValue121
  t44 := Try.underlying124
  a44 := Try.isAgg124
  z44 := Try.sizeOf124
  v44 := Try.zeroValue124
  t46 := Try.underlying109
  a46 := Try.isAgg109
  z46 := Try.sizeOf109
  v46 := Try.zeroValue109
  t53 := Try.underlying126
  a53 := Try.isAgg126
  z53 := Try.sizeOf126
  v53 := Try.zeroValue126
  t57 := Try.underlying130
  a57 := Try.isAgg130
  z57 := Try.sizeOf130
  v57 := Try.zeroValue130
  t63 := Try.underlying133
  a63 := Try.isAgg133
  z63 := Try.sizeOf133
  v63 := Try.zeroValue133
  t64 := Try.underlying134
  a64 := Try.isAgg134
  z64 := Try.sizeOf134
  v64 := Try.zeroValue134 }
/-- Keys, rising. -/
def srt (l : List Int) : List Int := l.mergeSort (fun x y => decide (x ≤ y))
theorem srt_length (l : List Int) : (srt l).length = l.length := List.length_mergeSort _
theorem flL_map : ∀ l : List Int, flt enL l = l.map (Value.int .i64 ·)
  | [] => rfl
  | k :: r => by
    have := flL_map r
    simp only [flt, List.flatMap_cons, enL, List.map_cons] at this ⊢
    rw [this]
    rfl
theorem flL_at (l : List Int) (j : Nat) : (flt enL l)[j]? = (l[j]?).map (.int .i64 ·) := by
  rw [flL_map]
  exact List.getElem?_map
theorem sort_any {w : World} {g off cap : Nat} {l : List Int} (hR : Ro w 1 (.slice (some ⟨g, off, none⟩) l.length cap) l.length (flt enL l)) (hN : l.length ≤ 1048576) (h0 : 0 < l.length) :
    Calls Try.prog 42 #[.slice (some ⟨g, off, none⟩) l.length cap] w fun e w' => e = .returned (.tuple #[]) ∧ (∀ j k, (srt l)[j]? = some k → w'.cell? ⟨g, off + j, none⟩ = some (.int .i64 k)) ∧ g < w'.heap.size ∧ Fr (fun k => k = g) w w' := by
  obtain ⟨g', off', cap', e, h1, h2, hg, hc⟩ := hR.full h0
  cases e
  have hH : Go.Sort.Holds (Value.int .i64) w g off l.toArray := fun j hj => by
    have hj' : j < l.length := by simpa using hj
    refine ⟨?_, hR.free rfl _⟩
    rw [hc j (by omega), flL_at, List.getElem?_eq_getElem hj']
    simp [hj']
  refine (AnyM.slices_Sort_int laysS g off cap l w hH hg (by omega)).mono ?_
  rintro e w' ⟨rfl, n, os, rfl⟩
  have hS : ((srt l).toArray).size = l.toArray.size := by simp [srt_length]
  refine ⟨rfl, fun j k hk => ?_, ?_, ?_⟩
  · have hj := (List.getElem?_eq_some_iff.1 hk).1
    rw [Go.Sort.cell?_grow _ _ _ (by simpa [Go.Sort.ahead] using hg)]
    have := Go.Sort.cell?_putRow (Value.int .i64) (Go.Sort.ahead w n) g off l.toArray (srt l).toArray hH hS j (by simpa using hj)
    refine this.trans ?_
    rw [show (srt l).toArray[j]! = k by simp [getElem!_def, hk]]
  · simp [Go.Sort.grow, Go.Sort.putRow, Go.Sort.mapBlock, Go.Sort.ahead]; omega
  · refine ⟨rfl, rfl, rfl, by simp [Go.Sort.grow, Go.Sort.putRow, Go.Sort.mapBlock, Go.Sort.ahead], fun k hk hn => ?_⟩
    have e1 : (Go.Sort.grow (Go.Sort.putRow (Value.int .i64) (Go.Sort.ahead w n) g off (srt l).toArray) os).heap[k]? = (Go.Sort.putRow (Value.int .i64) (Go.Sort.ahead w n) g off (srt l).toArray).heap[k]? := Go.Sort.heap_grow_old _ _ (by simpa [Go.Sort.ahead] using hk)
    refine e1.trans ?_
    simp only [Go.Sort.putRow, Go.Sort.mapBlock, Go.Sort.ahead, Array.getElem?_modify]
    rw [if_neg (fun e => hn e.symm)]
theorem sort_none {w : World} {v : Value} (hR : Ro w 1 v 0 []) : Calls Try.prog 42 #[v] w fun e w' => e = .returned (.tuple #[]) ∧ w' = w := by
  obtain ⟨a, cap, rfl, _⟩ := hR.shape
  exact AnyM.slices_Sort_int_none laysS a cap w
theorem infCV : (Try.prog.info? 28).map (fun i => (i.zero, i.size, i.bytes)) = some (some (.agg #[.int .i64 0, .int .i64 0]), 2, 16) := by kernel_rfl
theorem nil_eqV (c : Nat) (W : World) : (binOp .eql 40 (.slice none 0 c) (.slice none 0 0)).run Try.prog W = .ok (.bool true) W := by kernel_rfl
theorem nil_neV (a : Addr) (n c : Nat) (W : World) : (binOp .eql 40 (.slice (some a) n c) (.slice none 0 0)).run Try.prog W = .ok (.bool false) W := by kernel_rfl
set_option maxRecDepth 100000 in
set_option maxHeartbeats 1600000 in
theorem cloneV_any {w : World} {lv : Value} {l : List (Int × Int)} (h : Rx w 2 lv l.length (flt enI l)) (hN : l.length ≤ 1048576) (h1 : ∀ u ∈ flt enI l, u.oneCell' = true) :
    Calls Try.prog 37 #[lv] w fun e w' => ∃ v', e = .returned v' ∧ Gx w 2 enI l v' w' := by
  have hh := h
  obtain ⟨_, ha, hc, rfl, hlc, hcm, hcell⟩ := hh
  cases ha with
  | none =>
    have h0 : l.length = 0 := by
      by_cases q : 0 < l.length
      · obtain ⟨_, _, e, _⟩ := hcell q; cases e
      · omega
    obtain rfl : l = [] := List.eq_nil_of_length_eq_zero h0
    have hq := nil_eqV hc w
    simp only [List.length_nil] at hq ⊢
    clear hlc hcm hcell h0 h h1
    go_enter Try.func37, Try.ntmps37
    go_wp2_with fail
    go_ret
    exact ⟨_, rfl, by simpa [flt] using Ro.nil w 2, Below.refl _ _, by simp [Value.ownBlock]⟩
  | some a =>
    have hq := nil_neV a l.length hc w
    have hB : Below w.heap.size w (w.alloc (.cells #[] 28)) := (Below.refl _ _).alloc (Nat.le_refl _) _
    have hr : Ro (w.alloc (.cells #[] 28)) 2 (.slice (some ⟨w.heap.size, 0, none⟩) 0 0) 0 [] := ⟨by simp, .inr ⟨w.heap.size, 0, 0, #[], 28, rfl, heap_alloc_new w _, Nat.le_refl _, Nat.zero_le _, by simp, fun j hj => by omega⟩⟩
    obtain ⟨v', w', hrun, k1, k2, k3⟩ := Ro.appX (P := Try.prog) 40 40 28 _ Try.underlying40 infCV rfl (by decide) hr (h.below hB (Nat.le_refl _)) h1 (by unfold maxLen; omega) (by omega)
    rw [Nat.zero_add, List.nil_append] at k1
    have HG : Hid (Gx w 2 enI l v' w') := by
      refine ⟨k1, hB.trans ⟨k2.os, k2.tape, k2.output, k2.size, fun k hk => k2.block k (by simp; omega) (by simp [Value.ownBlock]; omega)⟩, fun k hk => ?_⟩
      rcases k3 with q | q
      · rw [q] at hk; simp [Value.ownBlock] at hk; omega
      · rw [q] at hk; simp at hk; omega
    have HRUN := hide hrun
    clear hcell hrun k1 k2 k3 hr hB h h1
    go_enter Try.func37, Try.ntmps37
    go_wp2_with (first | (at_builtin; refine wpList_appRun rfl _ _ rfl rfl rfl (unhide HRUN) ?_))
    go_ret
    exact ⟨v', rfl, unhide HG⟩
end Go.Proofs.Ytfoanikkngmeiaa
