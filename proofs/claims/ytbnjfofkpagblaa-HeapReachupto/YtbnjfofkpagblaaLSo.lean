/-
  Clones; slices.Sort of keys: its contract of the shelf, laid here in plain words; rightKeys.
-/
import Derived.Shelf.SortM.Plain
import Derived.Shelf.SortM.SortNone
import Derived.Test.YtbnjfofkpagblaaLVa
namespace Go.Proofs.Ytbnjfofkpagblaa
open Go.Shelf Go.RowKit
set_option linter.unusedVariables false
set_option linter.unusedSimpArgs false
def laysS_ren : Go.Shelf.Ren := ⟨fun | 5 => 45 | 8 => 48 | 7 => 47 | 19 => 58 | 20 => 59 | 10 => 49 | 11 => 50 | 12 => 51 | 13 => 52 | 14 => 53 | 15 => 54 | 16 => 55 | 17 => 56 | 18 => 57 | 30 => 60 | 31 => 61 | 32 => 62 | 33 => 63 | 34 => 64 | 35 => 65 | 40 => 66 | n => n, fun | 23 => 47 | 25 => 2 | 3 => 3 | 32 => 100 | 22 => 47 | 0 => 0 | 44 => 111 | 46 => 94 | 4 => 4 | 36 => 103 | 35 => 102 | 41 => 108 | 5 => 5 | 9 => 9 | 53 => 113 | 57 => 117 | 63 => 120 | 64 => 121 | n => n, fun | n => n⟩
theorem laysS : Go.Proofs.SlLaysM.n5 Try.prog laysS_ren := {
  mixed := by kernel_rfl
  f5 := ⟨Try.f45.name, by decide, Try.func45.trans (congrArg some (by kernel_rfl))⟩
  f7 := ⟨Try.f47.name, by decide, Try.func47.trans (congrArg some (by kernel_rfl))⟩
  f8 := Try.func48.trans (congrArg some (by kernel_rfl))
  f10 := ⟨Try.f49.name, by decide, Try.func49.trans (congrArg some (by kernel_rfl))⟩
  f11 := ⟨Try.f50.name, by decide, Try.func50.trans (congrArg some (by kernel_rfl))⟩
  f12 := ⟨Try.f51.name, by decide, Try.func51.trans (congrArg some (by kernel_rfl))⟩
  f13 := ⟨Try.f52.name, by decide, Try.func52.trans (congrArg some (by kernel_rfl))⟩
  f14 := ⟨Try.f53.name, by decide, Try.func53.trans (congrArg some (by kernel_rfl))⟩
  f15 := ⟨Try.f54.name, by decide, Try.func54.trans (congrArg some (by kernel_rfl))⟩
  f16 := ⟨Try.f55.name, by decide, Try.func55.trans (congrArg some (by kernel_rfl))⟩
  f17 := ⟨Try.f56.name, by decide, Try.func56.trans (congrArg some (by kernel_rfl))⟩
  f18 := ⟨Try.f57.name, by decide, Try.func57.trans (congrArg some (by kernel_rfl))⟩
  f19 := Try.func58.trans (congrArg some (by kernel_rfl))
  f20 := Try.func59.trans (congrArg some (by kernel_rfl))
  f30 := ⟨Try.f60.name, by decide, Try.func60.trans (congrArg some (by kernel_rfl))⟩
  f31 := Try.func61.trans (congrArg some (by kernel_rfl))
  f32 := Try.func62.trans (congrArg some (by kernel_rfl))
  f33 := ⟨Try.f63.name, by decide, Try.func63.trans (congrArg some (by kernel_rfl))⟩
  f34 := ⟨Try.f64.name, by decide, Try.func64.trans (congrArg some (by kernel_rfl))⟩
  f35 := ⟨Try.f65.name, by decide, Try.func65.trans (congrArg some (by kernel_rfl))⟩
  f40 := ⟨Try.f66.name, by decide, Try.func66.trans (congrArg some (by kernel_rfl))⟩
  t0 := Try.underlying0
  a0 := Try.isAgg0
  z0 := Try.sizeOf0
  v0 := Try.zeroValue0
  t3 := Try.underlying3
  a3 := Try.isAgg3
  z3 := Try.sizeOf3
  v3 := Try.zeroValue3
  t4 := Try.underlying4
  a4 := Try.isAgg4
  z4 := Try.sizeOf4
  v4 := Try.zeroValue4
  t5 := Try.underlying5
  a5 := Try.isAgg5
  z5 := Try.sizeOf5
  v5 := Try.zeroValue5
  t9 := Try.underlying9
  a9 := Try.isAgg9
  z9 := Try.sizeOf9
  v9 := Try.zeroValue9
  t22 := Try.underlying47
  a22 := Try.isAgg47
  z22 := Try.sizeOf47
  v22 := Try.zeroValue47
  t23 := Try.underlying47
  a23 := Try.isAgg47
  z23 := Try.sizeOf47
  v23 := Try.zeroValue47
  t25 := Try.underlying2
  a25 := Try.isAgg2
  z25 := Try.sizeOf2
  v25 := Try.zeroValue2
  t32 := Try.underlying100
  a32 := Try.isAgg100
  z32 := Try.sizeOf100
  v32 := Try.zeroValue100
  t35 := Try.underlying102
  a35 := Try.isAgg102
  z35 := Try.sizeOf102
  v35 := Try.zeroValue102
  t36 := Try.underlying103
  a36 := Try.isAgg103
  z36 := Try.sizeOf103
  v36 := Try.zeroValue103
  t41 := Try.underlying108
  a41 := Try.isAgg108
  z41 := Try.sizeOf108
  v41 := Try.zeroValue108
  t44 := Try.underlying111
  a44 := Try.isAgg111
  z44 := Try.sizeOf111
  v44 := Try.zeroValue111
  t46 := Try.underlying94
  a46 := Try.isAgg94
  z46 := Try.sizeOf94
  v46 := Try.zeroValue94
  t53 := Try.underlying113
  a53 := Try.isAgg113
  z53 := Try.sizeOf113
  v53 := Try.zeroValue113
  t57 := Try.underlying117
  a57 := Try.isAgg117
  z57 := Try.sizeOf117
  v57 := Try.zeroValue117
  t63 := Try.underlying120
  a63 := Try.isAgg120
  z63 := Try.sizeOf120
  v63 := Try.zeroValue120
  t64 := Try.underlying121
  a64 := Try.isAgg121
  z64 := Try.sizeOf121
  v64 := Try.zeroValue121 }
/-- Keys, rising. -/
def srt (l : List Int) : List Int := l.mergeSort (fun x y => decide (x ≤ y))
theorem srt_length (l : List Int) : (srt l).length = l.length := List.length_mergeSort _
theorem flL_map : ∀ l : List Int, flt enL l = l.map (Value.int .i64 ·)
  | [] => rfl
  | k :: r => by
    have := flL_map r
    simp only [flt, List.flatMap_cons, enL, List.map_cons] at this ⊢
    rw [this]
    rfl
theorem flL_at (l : List Int) (j : Nat) : (flt enL l)[j]? = (l[j]?).map (.int .i64 ·) := by
  rw [flL_map]
  exact List.getElem?_map
theorem sort_any {w : World} {g off cap : Nat} {l : List Int} (hR : Ro w 1 (.slice (some ⟨g, off, none⟩) l.length cap) l.length (flt enL l)) (hN : l.length ≤ 1048576) (h0 : 0 < l.length) :
    Calls Try.prog 45 #[.slice (some ⟨g, off, none⟩) l.length cap] w fun e w' => e = .returned (.tuple #[]) ∧ (∀ j k, (srt l)[j]? = some k → w'.cell? ⟨g, off + j, none⟩ = some (.int .i64 k)) ∧ g < w'.heap.size ∧ Fr (fun k => k = g) w w' := by
  obtain ⟨g', off', cap', e, h1, h2, hg, hc⟩ := hR.full h0
  cases e
  have hH : Go.Sort.Holds (Value.int .i64) w g off l.toArray := fun j hj => by
    have hj' : j < l.length := by simpa using hj
    refine ⟨?_, hR.free rfl _⟩
    rw [hc j (by omega), flL_at, List.getElem?_eq_getElem hj']
    simp [hj']
  refine (AnyM.slices_Sort_int laysS g off cap l w hH hg (by omega)).mono ?_
  rintro e w' ⟨rfl, n, os, rfl⟩
  have hS : ((srt l).toArray).size = l.toArray.size := by simp [srt_length]
  refine ⟨rfl, fun j k hk => ?_, ?_, ?_⟩
  · have hj := (List.getElem?_eq_some_iff.1 hk).1
    rw [Go.Sort.cell?_grow _ _ _ (by simpa [Go.Sort.ahead] using hg)]
    have := Go.Sort.cell?_putRow (Value.int .i64) (Go.Sort.ahead w n) g off l.toArray (srt l).toArray hH hS j (by simpa using hj)
    refine this.trans ?_
    rw [show (srt l).toArray[j]! = k by simp [getElem!_def, hk]]
  · simp [Go.Sort.grow, Go.Sort.putRow, Go.Sort.mapBlock, Go.Sort.ahead]; omega
  · refine ⟨rfl, rfl, rfl, by simp [Go.Sort.grow, Go.Sort.putRow, Go.Sort.mapBlock, Go.Sort.ahead], fun k hk hn => ?_⟩
    have e1 : (Go.Sort.grow (Go.Sort.putRow (Value.int .i64) (Go.Sort.ahead w n) g off (srt l).toArray) os).heap[k]? = (Go.Sort.putRow (Value.int .i64) (Go.Sort.ahead w n) g off (srt l).toArray).heap[k]? := Go.Sort.heap_grow_old _ _ (by simpa [Go.Sort.ahead] using hk)
    refine e1.trans ?_
    simp only [Go.Sort.putRow, Go.Sort.mapBlock, Go.Sort.ahead, Array.getElem?_modify]
    rw [if_neg (fun e => hn e.symm)]
theorem sort_none {w : World} {v : Value} (hR : Ro w 1 v 0 []) : Calls Try.prog 45 #[v] w fun e w' => e = .returned (.tuple #[]) ∧ w' = w := by
  obtain ⟨a, cap, rfl, _⟩ := hR.shape
  exact AnyM.slices_Sort_int_none laysS a cap w
theorem infCV : (Try.prog.info? 39).map (fun i => (i.zero, i.size, i.bytes)) = some (some (.agg #[.int .i64 0, .int .i64 0]), 2, 16) := by kernel_rfl
theorem nil_eqV (c : Nat) (W : World) : (binOp .eql 30 (.slice none 0 c) (.slice none 0 0)).run Try.prog W = .ok (.bool true) W := by kernel_rfl
theorem nil_neV (a : Addr) (n c : Nat) (W : World) : (binOp .eql 30 (.slice (some a) n c) (.slice none 0 0)).run Try.prog W = .ok (.bool false) W := by kernel_rfl
set_option maxRecDepth 100000 in
set_option maxHeartbeats 1600000 in
theorem cloneV_any {w : World} {lv : Value} {l : List (Int × Int)} (h : Rx w 2 lv l.length (flt enI l)) (hN : l.length ≤ 1048576) (h1 : ∀ u ∈ flt enI l, u.oneCell' = true) :
    Calls Try.prog 40 #[lv] w fun e w' => ∃ v', e = .returned v' ∧ Gx w 2 enI l v' w' := by
  have hh := h
  obtain ⟨_, ha, hc, rfl, hlc, hcm, hcell⟩ := hh
  cases ha with
  | none =>
    have h0 : l.length = 0 := by
      by_cases q : 0 < l.length
      · obtain ⟨_, _, e, _⟩ := hcell q; cases e
      · omega
    obtain rfl : l = [] := List.eq_nil_of_length_eq_zero h0
    have hq := nil_eqV hc w
    simp only [List.length_nil] at hq ⊢
    clear hlc hcm hcell h0 h h1
    go_enter Try.func40, Try.ntmps40
    go_wp2_with fail
    go_ret
    exact ⟨_, rfl, by simpa [flt] using Ro.nil w 2, Below.refl _ _, by simp [Value.ownBlock]⟩
  | some a =>
    have hq := nil_neV a l.length hc w
    have hB : Below w.heap.size w (w.alloc (.cells #[] 39)) := (Below.refl _ _).alloc (Nat.le_refl _) _
    have hr : Ro (w.alloc (.cells #[] 39)) 2 (.slice (some ⟨w.heap.size, 0, none⟩) 0 0) 0 [] := ⟨by simp, .inr ⟨w.heap.size, 0, 0, #[], 39, rfl, heap_alloc_new w _, Nat.le_refl _, Nat.zero_le _, by simp, fun j hj => by omega⟩⟩
    obtain ⟨v', w', hrun, k1, k2, k3⟩ := Ro.appX (P := Try.prog) 30 30 39 _ Try.underlying30 infCV rfl (by decide) hr (h.below hB (Nat.le_refl _)) h1 (by unfold maxLen; omega) (by omega)
    rw [Nat.zero_add, List.nil_append] at k1
    have HG : Hid (Gx w 2 enI l v' w') := by
      refine ⟨k1, hB.trans ⟨k2.os, k2.tape, k2.output, k2.size, fun k hk => k2.block k (by simp; omega) (by simp [Value.ownBlock]; omega)⟩, fun k hk => ?_⟩
      rcases k3 with q | q
      · rw [q] at hk; simp [Value.ownBlock] at hk; omega
      · rw [q] at hk; simp at hk; omega
    have HRUN := hide hrun
    clear hcell hrun k1 k2 k3 hr hB h h1
    go_enter Try.func40, Try.ntmps40
    go_wp2_with (first | (at_builtin; refine wpList_appRun rfl _ _ rfl rfl rfl (unhide HRUN) ?_))
    go_ret
    exact ⟨v', rfl, unhide HG⟩
end Go.Proofs.Ytbnjfofkpagblaa
