/-
  The order of places, as the program compares them.
-/
import Derived.Test.YtjjfpokmpcpicaaBk4
import Derived.Test.YtjjfpokmpcpicaaBkC
import Derived.Test.YtjjfpokmpcpicaaSoP
namespace Go.Proofs.Ytjjfpokmpcpicaa
open Go.RowKit
set_option linter.unusedVariables false
set_option linter.unusedSimpArgs false
def cfP (x y : Int × Int) : Int := orI (cpI x.1 y.1) (cpI x.2 y.2)
set_option maxRecDepth 100000 in
set_option maxHeartbeats 3200000 in
theorem plC_any (w : World) (x y : Int × Int) :
    Calls Try.prog 46 #[.agg #[.int .i64 x.1, .int .i64 x.2], .agg #[.int .i64 y.1, .int .i64 y.2]] w fun e w' => e = .returned (.int .i64 (cfP x y)) ∧ Below w.heap.size w w' ∧ w.drawn ≤ w'.drawn := by
  unfold cfP
  obtain ⟨x1, x2⟩ := x
  obtain ⟨y1, y2⟩ := y
  simp only
  obtain ⟨u1, hu1⟩ : ∃ u, Hid (cpI x1 y1 = u) := ⟨_, hide rfl⟩
  obtain ⟨u2, hu2⟩ : ∃ u, Hid (cpI x2 y2 = u) := ⟨_, hide rfl⟩
  have HC1 := hide (fun W => cmpI_any W x1 y1)
  have HC2 := hide (fun W => cmpI_any W x2 y2)
  rw [unhide hu1] at HC1 ⊢
  rw [unhide hu2] at HC2 ⊢
  clear hu1 hu2
  obtain ⟨q, hq⟩ : ∃ q, Hid (w.heap.size = q) := ⟨_, hide rfl⟩
  obtain ⟨W0, hW0⟩ : ∃ W0, Hid ((w.alloc (.cells #[.int .i64 x1, .int .i64 x2] 78)).alloc (.cells #[.int .i64 y1, .int .i64 y2] 78) = W0) := ⟨_, hide rfl⟩
  have HSV0 : Hid ((fun V => V.heap[q]? = some (.cells #[.int .i64 x1, .int .i64 x2] 78) ∧ V.heap[q + 1]? = some (.cells #[.int .i64 y1, .int .i64 y2] 78)) W0) := by
    constructor
    · rw [← unhide hW0, ← unhide hq, Below.heap_alloc _ _ _ (by rw [World.size_alloc]; omega)]; exact heap_alloc_new w _
    · rw [← unhide hW0, ← unhide hq]
      have := heap_alloc_new (w.alloc (.cells #[.int .i64 x1, .int .i64 x2] 78)) (.cells #[.int .i64 y1, .int .i64 y2] 78)
      simpa only [World.size_alloc] using this
  have HB0 : Hid (Below w.heap.size w W0) := by unfold Hid; rw [← unhide hW0]; exact ((Below.refl _ w).alloc (Nat.le_refl _) _).alloc (by simp) _
  have HD0 : Hid (w.drawn ≤ W0.drawn) := by unfold Hid; rw [← unhide hW0]; exact Nat.le_refl _
  go_enter Try.func46, Try.ntmps46
  go_wp2_with fail
  rw [unhide hq, unhide hW0]
  clear hW0
  refine wp_region_held_drew (S := (fun V => V.heap[q]? = some (.cells #[.int .i64 x1, .int .i64 x2] 78) ∧ V.heap[q + 1]? = some (.cells #[.int .i64 y1, .int .i64 y2] 78))) (by kernel_rfl) (unhide HSV0) (fun hHeld => ?_)
  clear hHeld
  have HSV : Hid ((fun V => V.heap[q]? = some (.cells #[.int .i64 x1, .int .i64 x2] 78) ∧ V.heap[q + 1]? = some (.cells #[.int .i64 y1, .int .i64 y2] 78)) W0.drew) := unhide HSV0
  refine wpAnyH_take (i := 0) (oi := _) (v := .pointer (some ⟨q, 0, none⟩)) rfl (by kernel_rfl) (by kernel_rfl) (by kernel_rfl) (fun _ _ _ h => h) (Or.inl ⟨by rfl, (by intro w' hSw; obtain ⟨hS1, hS2⟩ := hSw; obtain ⟨cc, -, zz⟩ := blk_cells hS1; obtain ⟨dd, -, yy⟩ := blk_cells hS2; have c0 := cc 0; have c1 := cc 1; have d0 := dd 0; have d1 := dd 1; clear cc dd hS1 hS2; go_simp)⟩) (unhide HSV) ?_
  go_simp
  refine wpAnyH_take (i := 1) (oi := _) (v := .int .i64 x1) rfl (by kernel_rfl) (by kernel_rfl) (by kernel_rfl) (fun _ _ _ h => h) (Or.inl ⟨by rfl, (by intro w' hSw; obtain ⟨hS1, hS2⟩ := hSw; obtain ⟨cc, -, zz⟩ := blk_cells hS1; obtain ⟨dd, -, yy⟩ := blk_cells hS2; have c0 := cc 0; have c1 := cc 1; have d0 := dd 0; have d1 := dd 1; clear cc dd hS1 hS2; go_simp)⟩) (unhide HSV) ?_
  go_simp
  refine wpAnyH_take (i := 2) (oi := _) (v := .pointer (some ⟨q + 1, 0, none⟩)) rfl (by kernel_rfl) (by kernel_rfl) (by kernel_rfl) (fun _ _ _ h => h) (Or.inl ⟨by rfl, (by intro w' hSw; obtain ⟨hS1, hS2⟩ := hSw; obtain ⟨cc, -, zz⟩ := blk_cells hS1; obtain ⟨dd, -, yy⟩ := blk_cells hS2; have c0 := cc 0; have c1 := cc 1; have d0 := dd 0; have d1 := dd 1; clear cc dd hS1 hS2; go_simp)⟩) (unhide HSV) ?_
  go_simp
  refine wpAnyH_take (i := 3) (oi := _) (v := .int .i64 y1) rfl (by kernel_rfl) (by kernel_rfl) (by kernel_rfl) (fun _ _ _ h => h) (Or.inl ⟨by rfl, (by intro w' hSw; obtain ⟨hS1, hS2⟩ := hSw; obtain ⟨cc, -, zz⟩ := blk_cells hS1; obtain ⟨dd, -, yy⟩ := blk_cells hS2; have c0 := cc 0; have c1 := cc 1; have d0 := dd 0; have d1 := dd 1; clear cc dd hS1 hS2; go_simp)⟩) (unhide HSV) ?_
  go_simp
  refine wpAnyH_take (i := 5) (oi := _) (v := .pointer (some ⟨q, 1, none⟩)) rfl (by kernel_rfl) (by kernel_rfl) (by kernel_rfl) (fun _ _ _ h => h) (Or.inl ⟨by rfl, (by intro w' hSw; obtain ⟨hS1, hS2⟩ := hSw; obtain ⟨cc, -, zz⟩ := blk_cells hS1; obtain ⟨dd, -, yy⟩ := blk_cells hS2; have c0 := cc 0; have c1 := cc 1; have d0 := dd 0; have d1 := dd 1; clear cc dd hS1 hS2; go_simp)⟩) (unhide HSV) ?_
  go_simp
  refine wpAnyH_take (i := 6) (oi := _) (v := .int .i64 x2) rfl (by kernel_rfl) (by kernel_rfl) (by kernel_rfl) (fun _ _ _ h => h) (Or.inl ⟨by rfl, (by intro w' hSw; obtain ⟨hS1, hS2⟩ := hSw; obtain ⟨cc, -, zz⟩ := blk_cells hS1; obtain ⟨dd, -, yy⟩ := blk_cells hS2; have c0 := cc 0; have c1 := cc 1; have d0 := dd 0; have d1 := dd 1; clear cc dd hS1 hS2; go_simp)⟩) (unhide HSV) ?_
  go_simp
  refine wpAnyH_take (i := 7) (oi := _) (v := .pointer (some ⟨q + 1, 1, none⟩)) rfl (by kernel_rfl) (by kernel_rfl) (by kernel_rfl) (fun _ _ _ h => h) (Or.inl ⟨by rfl, (by intro w' hSw; obtain ⟨hS1, hS2⟩ := hSw; obtain ⟨cc, -, zz⟩ := blk_cells hS1; obtain ⟨dd, -, yy⟩ := blk_cells hS2; have c0 := cc 0; have c1 := cc 1; have d0 := dd 0; have d1 := dd 1; clear cc dd hS1 hS2; go_simp)⟩) (unhide HSV) ?_
  go_simp
  refine wpAnyH_take (i := 8) (oi := _) (v := .int .i64 y2) rfl (by kernel_rfl) (by kernel_rfl) (by kernel_rfl) (fun _ _ _ h => h) (Or.inl ⟨by rfl, (by intro w' hSw; obtain ⟨hS1, hS2⟩ := hSw; obtain ⟨cc, -, zz⟩ := blk_cells hS1; obtain ⟨dd, -, yy⟩ := blk_cells hS2; have c0 := cc 0; have c1 := cc 1; have d0 := dd 0; have d1 := dd 1; clear cc dd hS1 hS2; go_simp)⟩) (unhide HSV) ?_
  go_simp
  refine wpAnyH_ready (rs := [4]) (by kernel_rfl) (by simp) ?_
  refine AllReadyH.cons (o := _) rfl (fun K hK => ?_) AllReadyH.nil
  go_simp
  refine (unhide HC1 W0.drew).mono ?_
  rintro e V ⟨rfl, eV⟩
  have eV2 := eV.symm
  subst eV2
  clear eV
  go_simp
  refine hK.out _ _ (unhide HSV) (fun _ => ?_)
  clear hK K
  go_simp
  refine wpAnyH_ready (rs := [9]) (by kernel_rfl) (by simp) ?_
  refine AllReadyH.cons (o := _) rfl (fun K hK => ?_) AllReadyH.nil
  go_simp
  refine (unhide HC2 W0.drew).mono ?_
  rintro e V ⟨rfl, eV⟩
  have eV2 := eV.symm
  subst eV2
  clear eV
  go_simp
  refine hK.out _ _ (unhide HSV) (fun _ => ?_)
  clear hK K
  go_simp
  refine wpAnyH_ready (rs := [10]) (by kernel_rfl) (by simp) ?_
  refine AllReadyH.cons (o := _) rfl (fun K hK => ?_) AllReadyH.nil
  go_simp
  refine hK.out _ _ (⟨(Below.heap_alloc _ _ _ (Array.getElem?_eq_some_iff.1 (unhide HSV).1).1).trans (unhide HSV).1, (Below.heap_alloc _ _ _ (Array.getElem?_eq_some_iff.1 (unhide HSV).2).1).trans (unhide HSV).2⟩) (fun _ => ?_)
  clear hK K
  go_simp
  refine wpAnyH_ready (rs := [11]) (by kernel_rfl) (by simp) ?_
  refine AllReadyH.cons (o := _) rfl (fun K hK => ?_) AllReadyH.nil
  go_simp
  refine (or2_any _ u1 u2 W0.heap.size (by simp) (by simp) (by simp)).mono ?_
  rintro e w5 ⟨rfl, e5⟩
  subst e5
  go_simp
  refine hK.out _ _ (⟨(Below.heap_alloc _ _ _ (Array.getElem?_eq_some_iff.1 (unhide HSV).1).1).trans (unhide HSV).1, (Below.heap_alloc _ _ _ (Array.getElem?_eq_some_iff.1 (unhide HSV).2).1).trans (unhide HSV).2⟩) (fun _ => ?_)
  clear hK K
  go_simp
  refine wpAnyH_take (i := 12) (oi := _) (v := .int .i64 (orI u1 u2)) rfl (by kernel_rfl) (by kernel_rfl) (by kernel_rfl) (fun _ _ _ h => h) (Or.inl ⟨by rfl, (by intro w' hSw; obtain ⟨hS1, hS2⟩ := hSw; obtain ⟨cc, -, zz⟩ := blk_cells hS1; obtain ⟨dd, -, yy⟩ := blk_cells hS2; have c0 := cc 0; have c1 := cc 1; have d0 := dd 0; have d1 := dd 1; clear cc dd hS1 hS2; go_simp)⟩) (⟨(Below.heap_alloc _ _ _ (Array.getElem?_eq_some_iff.1 (unhide HSV).1).1).trans (unhide HSV).1, (Below.heap_alloc _ _ _ (Array.getElem?_eq_some_iff.1 (unhide HSV).2).1).trans (unhide HSV).2⟩) ?_
  go_simp
  refine wpAnyH_done (by kernel_rfl) ?_ _
  go_wp2_with fail
  go_ret
  refine ⟨rfl, ?_, ?_⟩
  · exact (unhide HB0).trans (((Fr.refl (fun _ => False) W0).drew.alloc _).below (unhide HB0).size (fun _ _ e => e))
  · exact Nat.le_trans (unhide HD0) (Nat.le_succ _)

open Go.Shelf Go.Sort in
theorem ltCf (x y : Int × Int) : ltOf cfP x y = decide (x.1 < y.1 ∨ (x.1 = y.1 ∧ x.2 < y.2)) := by
  unfold ltOf cfP orI cpI
  by_cases h1 : x.1 < y.1
  · simp [h1]
  · by_cases h2 : y.1 < x.1
    · have h3 : ¬ x.1 = y.1 := by omega
      simp [h1, h2, h3]
    · have h3 : x.1 = y.1 := by omega
      simp only [h1, h2, h3, ↓reduceIte]
      by_cases h4 : x.2 < y.2
      · simp [h4]
      · by_cases h5 : y.2 < x.2 <;> simp [h4, h5]
open Go.Shelf Go.Sort in
theorem swoP : SWO (ltOf cfP) where
  irrefl x := by rw [ltCf]; simp
  trans x y z h1 h2 := by rw [ltCf] at *; simp at *; omega
  ntrans x y z h1 h2 := by rw [ltCf] at *; simp at *; omega
open Go.Shelf Go.Sort in
theorem totP (x y : Int × Int) (h1 : ltOf cfP x y = false) (h2 : ltOf cfP y x = false) : x = y := by
  rw [ltCf] at *
  simp at *
  obtain ⟨a, b⟩ := x
  obtain ⟨c, d⟩ := y
  simp only at *
  have e1 : a = c := by omega
  have e2 : b = d := by omega
  rw [e1, e2]
open Go.Shelf Go.Sort in
theorem leP_iff (x y : Int × Int) : (!(ltOf cfP y x)) = true ↔ ¬ ltP y x := by
  rw [ltCf]
  unfold ltP
  rw [Bool.not_eq_true', decide_eq_false_iff_not]
open Go.Shelf Go.Sort in
theorem flat2 (l : List (Int × Int)) : flatK enI 2 l.toArray = (flt enI l).toArray := by
  refine Array.ext_getElem? (fun t => ?_)
  have hlen : (flt enI l).length = l.length * 2 := flt_length zI l
  by_cases ht : t < l.length * 2
  · have hq : t / 2 < l.length := by omega
    have hr : t % 2 < 2 := by omega
    have e := flt_at zI (l := l) (k := t / 2) (p := l[t / 2]) (List.getElem?_eq_getElem hq) (t % 2) hr
    have et : t / 2 * 2 + t % 2 = t := by omega
    rw [et] at e
    have a1 : (flt enI l).toArray[t]? = (flt enI l)[t]? := by simp
    rw [a1, e]
    unfold flatK
    rw [Array.getElem?_map, Array.getElem?_range, if_pos (by simpa using ht)]
    simp only [Option.map_some]
    have a2 : l.toArray[t / 2]! = l[t / 2] := by rw [getElem!_pos _ _ (by simpa using hq)]; simp
    rw [a2]
    have h2 : (enI l[t / 2])[t % 2]? = some ((enI l[t / 2])[t % 2]'(by rw [zI]; exact hr)) := List.getElem?_eq_getElem _
    rw [h2, getElem!_pos _ _ (by rw [zI]; exact hr)]
  · rw [Array.getElem?_eq_none (by simp; omega), Array.getElem?_eq_none (by simp; omega)]
open Go.Shelf Go.Sort in
theorem sortK_fr (w : World) (blk off m : Nat) (dk : Array (Int × Int)) (os : Array Obj) : Fr (fun b => b = blk) w (sortWorldK enI 2 w blk off m dk os) := by
  unfold sortWorldK putRowK putRow mapBlock grow Go.Sort.ahead
  refine ⟨rfl, rfl, rfl, by simp, fun k hk hn => ?_⟩
  show ((w.heap.modify blk _) ++ os)[k]? = w.heap[k]?
  rw [Array.getElem?_append_left (by simpa using hk), Array.getElem?_modify, if_neg (fun e => hn e.symm)]
open Go.Shelf Go.Sort in
theorem Ro.holdsP {w : World} {blk off cap : Nat} {l : List (Int × Int)} (h : Ro w 2 (.slice (some ⟨blk, off, none⟩) l.length cap) l.length (flt enI l)) (h0 : 0 < l.length) : HoldsK enI 2 w blk off l.toArray := by
  unfold HoldsK
  rw [flat2]
  intro j hj
  obtain ⟨_, _, _, e, _, _, _, hc⟩ := h.full h0
  cases e
  have hj' : j < (flt enI l).length := by simpa using hj
  have hj2 : j < l.length * 2 := by rw [← flt_length zI l]; exact hj'
  refine ⟨?_, h.free rfl _⟩
  rw [hc j hj2, List.getElem?_eq_getElem hj']
  show _ = some ((flt enI l).toArray[j]!)
  rw [getElem!_pos (flt enI l).toArray j hj]
  simp
open Go.Shelf Go.Sort in
/-- The row behind the sort. -/
theorem sortedP_ro {w : World} {blk off cap : Nat} {l T : List (Int × Int)} (h : Ro w 2 (.slice (some ⟨blk, off, none⟩) l.length cap) l.length (flt enI l)) (hS : T.length = l.length) (h0 : 0 < l.length) (q : Nat) (os : Array Obj) :
    Ro (sortWorldK enI 2 w blk off q T.toArray os) 2 (.slice (some ⟨blk, off, none⟩) l.length cap) l.length (flt enI T) := by
  have hH := Ro.holdsP h h0
  unfold HoldsK at hH
  rw [flat2] at hH
  have e1 : sortWorldK enI 2 w blk off q T.toArray os = grow ((w.drewN q).setCells blk off (flt enI T)) os := by
    unfold sortWorldK putRowK
    rw [flat2]
    have := Lib.sorted_world id w blk off q (flt enI l).toArray (flt enI T) os hH (by simp [flt_length zI, hS])
    rw [List.map_id] at this
    exact this
  rw [e1]
  have h1 : Ro (w.drewN q) 2 (.slice (some ⟨blk, off, none⟩) l.length cap) l.length (flt enI l) := h.fr (S := fun _ => False) (Fr.drewN q) (fun _ _ e => e)
  obtain ⟨_, _, e, hc, _⟩ := h.shape
  cases e
  have hlT : (flt enI T).length = l.length * 2 := by rw [flt_length zI, hS]
  have h2 := (h1.sets (v := .slice (some ⟨blk, off, none⟩) l.length cap) rfl (o := off) (m := l.length) (vs := flt enI T) (ys := flt enI T) (Nat.le_refl _) (by rw [hlT]; omega) hc hlT (fun j hj => by
    rw [if_pos (by rw [hlT]; omega)]
    congr 1
    omega) (fun j hj q => by omega)).1
  exact h2.fr (growW_fr0 _ os) (fun _ _ e => e)
theorem infP : (Try.prog.info? 78).map (fun i => (i.zero, i.size, i.bytes)) = some (some (.agg #[.int .i64 0, .int .i64 0]), 2, 16) := by kernel_rfl
/-- append of a place. -/
theorem appP {w : World} {ops : Array Oper} {rest : List Oper} {o : Oper} {a : Act} {Q : Exit → Act → World → Prop}
    (hg : o.guard = none) (s x : Operand) (hop : o.op = Op.call { callee := Callee.builtin Builtin.append, args := #[s, x], argTypes := #[86, 86] })
    (v : Value) (l : List (Int × Int)) (hs : a.eval s = v) (hr : Ro w 2 v l.length (flt enI l)) (ad : Addr) (c : Nat) (p : Int × Int) (hx : a.eval x = .slice (some ad) 1 c) (hc : ∀ j u, (enI p)[j]? = some u → w.cell? (ad.add j) = some u)
    (hN : l.length ≤ 5864062014700)
    (hK : ∀ v' w', Ro w' 2 v' (l.length + 1) (flt enI l ++ enI p) → w.grownBy w' v.ownBlock → (v'.ownBlock = v.ownBlock ∨ v'.ownBlock = some w.heap.size) → wpList Try.prog ops Q rest (a.put o.dst v') w') :
    wpList Try.prog ops Q (o :: rest) a w := by
  obtain ⟨i0, hi0, hz0, hz1, hz2⟩ := info_parts infP
  exact wpList_app hg s x 86 hop 78 i0 _ 2 16 Try.underlying86 hi0 hz0 hz1 hz2 rfl (by decide) v l.length (flt enI l) hs hr ad 1 c (enI p) hx rfl hc (by simp [enI, Value.oneCell']) (by omega) (by unfold maxLen; omega) (by omega) hK
end Go.Proofs.Ytjjfpokmpcpicaa
