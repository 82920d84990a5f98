/-
  The program's Hot.
-/
import Derived.Test.YtclcebdcdbcpjaaGreatH2
import Derived.Test.YtclcebdcdbcpjaaGreatAin
import Derived.Lib.SortBridge
import Derived.Lib.RowBridge
namespace Go.Proofs.YtclcebdcdbcpjaaGreat
open Go.RowKit
set_option linter.unusedVariables false
set_option linter.unusedSimpArgs false
theorem infN' : (Tryz.prog.info? 3).map (fun i => (i.zero, i.size, i.bytes)) = some (some (.int .i64 0), 1, 8) := by kernel_rfl
theorem appN' {w : World} {ops : Array Oper} {rest : List Oper} {o : Oper} {a : Act} {Q : Exit → Act → World → Prop}
    (hg : o.guard = none) (s x : Operand) (hop : o.op = Op.call { callee := Callee.builtin Builtin.append, args := #[s, x], argTypes := #[65, 65] })
    (v : Value) (l : List Int) (hs : a.eval s = v) (hr : Ro w 1 v l.length (flt enN l)) (ad : Addr) (c : Nat) (p : Int) (hx : a.eval x = .slice (some ad) 1 c) (hc : ∀ j u, (enN p)[j]? = some u → w.cell? (ad.add j) = some u)
    (hN : l.length ≤ 5864062014700)
    (hK : ∀ v' w', Ro w' 1 v' (l.length + 1) (flt enN l ++ enN p) → w.grownBy w' v.ownBlock → (v'.ownBlock = v.ownBlock ∨ v'.ownBlock = some w.heap.size) → wpList Tryz.prog ops Q rest (a.put o.dst v') w') :
    wpList Tryz.prog ops Q (o :: rest) a w := by
  obtain ⟨i0, hi0, hz0, hz1, hz2⟩ := info_parts infN'
  exact wpList_app hg s x 65 hop 3 i0 _ 1 8 Tryz.underlying65 hi0 hz0 hz1 hz2 rfl (by decide) v l.length (flt enN l) hs hr ad 1 c (enN p) hx rfl hc (by simp [enN, Value.oneCell']) (by omega) (by unfold maxLen; omega) (by omega) hK
theorem Gx.mk1 {T : Type} {w wr w' : World} {sz : Nat} {en : T → List Value} {l : List T} {v : Value} (h : Gx w sz en l v wr) (k : Below wr.heap.size wr w') : Gx w sz en l v w' :=
  ⟨h.1.fr (Fr.of_below (S := fun _ => False) k) (fun _ _ e => e), bl_past h.2.1 k, h.2.2⟩
/-- The functions up to n that ran so often. -/
def hotP (f : List (List Sp)) (least : Int) (n : Nat) : List Int := ((List.range n).filter (fun (i : Nat) => decide (least ≤ cn0 f (i : Int)))).map (fun (i : Nat) => (i : Int))
theorem hotP_succ (f : List (List Sp)) (least : Int) (n : Nat) : hotP f least (n + 1) = hotP f least n ++ (if least ≤ cn0 f (n : Int) then [(n : Int)] else []) := by
  unfold hotP
  rw [List.range_succ, List.filter_append, List.map_append]
  by_cases h : least ≤ cn0 f (n : Int) <;> simp [h]
theorem hotP_len (f : List (List Sp)) (least : Int) (n : Nat) : (hotP f least n).length ≤ n := by
  unfold hotP
  rw [List.length_map]
  have := List.length_filter_le (fun i => decide (least ≤ cn0 f ((i : Nat) : Int))) (List.range n)
  simpa using this
open Go.Shelf Go.Sort in
theorem ltH (f : List (List Sp)) (x y : Int) : ltOf (cfH f) x y = decide (cn0 f y < cn0 f x ∨ (cn0 f y = cn0 f x ∧ x < y)) := by
  unfold ltOf cfH orI cpI
  by_cases h1 : cn0 f y < cn0 f x
  · simp [h1]
  · by_cases h2 : cn0 f x < cn0 f y
    · have h3 : ¬ cn0 f y = cn0 f x := by omega
      simp [h1, h2, h3]
    · have h3 : cn0 f y = cn0 f x := by omega
      simp only [h1, h2, h3, ↓reduceIte]
      by_cases h4 : x < y
      · simp [h4]
      · by_cases h5 : y < x <;> simp [h4, h5]
open Go.Shelf Go.Sort in
theorem swoH (f : List (List Sp)) : SWO (ltOf (cfH f)) where
  irrefl x := by rw [ltH]; simp
  trans x y z h1 h2 := by rw [ltH] at *; simp at *; omega
  ntrans x y z h1 h2 := by rw [ltH] at *; simp at *; omega
open Go.Shelf Go.Sort in
theorem totH (f : List (List Sp)) (x y : Int) (h1 : ltOf (cfH f) x y = false) (h2 : ltOf (cfH f) y x = false) : x = y := by rw [ltH] at *; simp at *; omega
open Go.Shelf Go.Sort in
/-- The order in which they are told. -/
def leH (f : List (List Sp)) (x y : Int) : Bool := !(ltOf (cfH f) y x)
def hotS (f : List (List Sp)) (least : Int) : List Int := (hotP f least f.length).mergeSort (leH f)
open Go.Shelf Go.Sort in
theorem sortW_fr (w : World) (blk off m : Nat) (dk : Array Int) (os : Array Obj) : Fr (fun b => b = blk) w (sortWorld (Value.int .i64) w blk off m dk os) := by
  unfold sortWorld putRow mapBlock grow Go.Sort.ahead
  refine ⟨rfl, rfl, rfl, by simp, fun k hk hn => ?_⟩
  show ((w.heap.modify blk _) ++ os)[k]? = w.heap[k]?
  rw [Array.getElem?_append_left (by simpa using hk), Array.getElem?_modify, if_neg (fun e => hn e.symm)]
open Go.Sort in
theorem growW_fr (w : World) (q : Nat) (os : Array Obj) : Fr (fun _ => False) w (grow (w.drewN q) os) := by
  refine ⟨rfl, rfl, rfl, by simp [grow, World.drewN], fun k hk _ => ?_⟩
  show (w.heap ++ os)[k]? = w.heap[k]?
  rw [Array.getElem?_append_left hk]
open Go.Sort in
theorem growW_fr0 (w : World) (os : Array Obj) : Fr (fun _ => False) w (grow w os) := by
  refine ⟨rfl, rfl, rfl, by simp [grow], fun k hk _ => ?_⟩
  show (w.heap ++ os)[k]? = w.heap[k]?
  rw [Array.getElem?_append_left hk]
open Go.Shelf Go.Sort in
/-- The row behind the sort. -/
theorem sorted_ro {w : World} {blk off cap : Nat} {l S : List Int} (h : Ro w 1 (.slice (some ⟨blk, off, none⟩) l.length cap) l.length (flt enN l)) (hS : S.length = l.length) (hH : Holds (Value.int .i64) w blk off l.toArray) (q : Nat) (os : Array Obj) :
    Ro (sortWorld (Value.int .i64) w blk off q S.toArray os) 1 (.slice (some ⟨blk, off, none⟩) l.length cap) l.length (flt enN S) := by
  have e1 : sortWorld (Value.int .i64) w blk off q S.toArray os = grow ((w.drewN q).setCells blk off (S.map (Value.int .i64))) os := Lib.sorted_world (Value.int .i64) w blk off q l.toArray S os hH (by simpa using hS)
  rw [e1]
  have h1 : Ro (w.drewN q) 1 (.slice (some ⟨blk, off, none⟩) l.length cap) l.length (flt enN l) := h.fr (S := fun _ => False) (Fr.drewN q) (fun _ _ e => e)
  obtain ⟨_, _, e, hc, _⟩ := h.shape
  cases e
  have h2 := (h1.sets (v := .slice (some ⟨blk, off, none⟩) l.length cap) rfl (o := off) (m := l.length) (vs := S.map (Value.int .i64)) (ys := flt enN S) (Nat.le_refl _) (by simp [hS]; omega) hc (by rw [flt_map]; simp [hS]) (fun j hj => by
    rw [if_pos (by simp [hS]; omega), flt_map]
    congr 1
    omega) (fun j hj q => by omega)).1
  exact h2.fr (growW_fr0 _ os) (fun _ _ e => e)
theorem Ro.holds {w : World} {blk off cap : Nat} {l : List Int} (h : Ro w 1 (.slice (some ⟨blk, off, none⟩) l.length cap) l.length (flt enN l)) (h0 : 0 < l.length) : Go.Sort.Holds (Value.int .i64) w blk off l.toArray := by
  intro j hj
  obtain ⟨_, _, _, e, _, _, _, hc⟩ := h.full h0
  cases e
  have hj' : j < l.length := by simpa using hj
  refine ⟨?_, h.free rfl _⟩
  rw [hc j (by omega), flt_map]
  simp [hj']
open Go.Shelf Go.Sort in
set_option maxRecDepth 100000 in
set_option maxHeartbeats 6400000 in
theorem hot_any {w : World} {av : Value} {f : List (List Sp)} (ha : PfV w av f) (hN : f.length ≤ 5864062014634) (least : Int) :
    Calls Tryz.prog 23 #[.agg #[av], .int .i64 least] w fun e w' => ∃ v', e = .returned v' ∧ Gx w 1 enN (hotS f least) v' w' := by
  obtain ⟨a, acap, rfl, ha1, ha2⟩ := ha.shape
  have HA := hide (fun W (hW : Below w.heap.size w W) => ha.below hW (Nat.le_refl _))
  unfold maxLen at ha2
  clear ha
  obtain ⟨L, hL⟩ : ∃ L, Hid (f.length = L) := ⟨_, hide rfl⟩
  rw [unhide hL] at ha1 hN HA ⊢
  have HBX := hide (heap_alloc_new w (.cells #[.slice a L acap] 25))
  have HB0 := hide (box1 w (.slice a L acap) 25)
  have HG0 : Hid (Gx (w.alloc (.cells #[.slice a L acap] 25)) 1 enN (hotP f least 0) (.slice none 0 0) (w.alloc (.cells #[.slice a L acap] 25))) := ⟨by simpa [hotP, flt] using Ro.nil _ _, Below.refl _ _, by simp [Value.ownBlock]⟩
  obtain ⟨W0, hW0⟩ : ∃ W0, Hid (w.alloc (.cells #[.slice a L acap] 25) = W0) := ⟨_, hide rfl⟩
  have hW0s : W0.heap.size = w.heap.size + 1 := by rw [← unhide hW0]; simp
  have HEV : Hid (∀ W, Below W0.heap.size W0 W → Below w.heap.size w W ∧ W.cell? ⟨w.heap.size, 0, none⟩ = some (.slice a L acap) ∧ w.heap.size < W.heap.size) := fun W hW => by
    have h1 := unhide HBX
    rw [unhide hW0] at h1
    have h2 := unhide HB0
    rw [unhide hW0] at h2
    obtain ⟨c, -, z⟩ := blk_cells ((hW.block _ (by omega)).trans h1)
    exact ⟨bl_past h2 hW, c 0, z⟩
  obtain ⟨-, q0, z0⟩ := unhide HEV W0 (Below.refl _ _)
  have HG1 : Hid (Gx W0 1 enN (hotP f least 0) (.slice none 0 0) W0) := by have := unhide HG0; rw [unhide hW0] at this; exact this
  clear HG0 HBX HB0
  go_enter Tryz.func23, Tryz.ntmps23
  go_wp2_with fail
  rw [unhide hW0]
  clear q0 z0
  go_loopg [5, 10] L (fun gg t5 t10 wr => ∃ (i : Nat) (v : Value), Hid (i + gg = L) ∧ t5 = v ∧ t10 = .int .i64 (i : Int) ∧ Hid (Gx W0 1 enN (hotP f least i) v wr))
  case atStart => exact ⟨0, _, by unfold Hid; omega, rfl, rfl, HG1⟩
  case round =>
    clear HG1
    obtain ⟨i, v, hi, hv, rfl, hG⟩ := hrel
    have hv2 := hv.symm
    subst hv2
    clear hv
    obtain ⟨bw, q0, z0⟩ := unhide HEV wr (unhide hG).2.1
    have HBW := hide bw
    clear bw
    by_cases hlt : i < L
    · have i0 : (0 : Int) ≤ (i : Int) := by omega
      have i1 : (i : Int) < (L : Int) := by omega
      have HAT := hide (atD_any (unhide HA wr (unhide HBW)) (i : Int) 0)
      obtain ⟨xs, hxs⟩ : ∃ s, Hid (atP f (i : Int) 0 = s) := ⟨_, hide rfl⟩
      rw [unhide hxs] at HAT
      have hcn : Hid (cn0 f (i : Int) = xs.c) := by unfold Hid cn0; rw [unhide hxs]
      obtain ⟨x0, x1, x2, x3⟩ := xs
      unfold spV at HAT
      simp only at HAT hcn
      have hfl := fld0
      go_wp2_with fail
      refine (unhide HAT).mono ?_
      rintro e w1 ⟨rfl, b1, -⟩
      have HG1 := hide (Gx.mk1 (unhide hG) b1)
      clear b1 hG HAT q0 z0
      by_cases hle : least ≤ x0
      · have d1 : decide (least ≤ x0) = true := decide_eq_true hle
        have HRo := hide (unhide HG1).1
        have HLB : Hid ((hotP f least i).length ≤ 5864062014700) := by have := hotP_len f least i; unfold Hid; omega
        have HNX : Hid (hotP f least (i + 1) = hotP f least i ++ [(i : Int)]) := by unfold Hid; rw [hotP_succ, unhide hcn, if_pos hle]
        clear hle
        go_wp2_with (first | (at_builtin; refine appN' rfl _ _ rfl _ (hotP f least i) rfl ((unhide HRo).keep (fun g hg => Below.heap_alloc _ _ _ ((unhide HRo).lt g hg))) ⟨w1.heap.size, 0, none⟩ 1 (i : Int) rfl (new_cells _ _ _) (unhide HLB) ?_))
        intro v' w' hr hg hat
        have HG2 := hide ((unhide HG1).push hr rfl hg (by simpa using hat))
        rw [← unhide HNX] at HG2
        clear hr hg hat HRo HLB HG1
        go_wp2_with fail
        go_roundg (gk - 1)
        case measure => have := unhide hi; omega
        case rel => exact ⟨i + 1, v', by have := unhide hi; unfold Hid; omega, rfl, by go_num, HG2⟩
      · have d1 : decide (least ≤ x0) = false := decide_eq_false hle
        have HNX : Hid (hotP f least (i + 1) = hotP f least i) := by unfold Hid; rw [hotP_succ, unhide hcn, if_neg hle, List.append_nil]
        rw [← unhide HNX] at HG1
        clear hle
        go_wp2_with fail
        go_roundg (gk - 1)
        case measure => have := unhide hi; omega
        case rel => exact ⟨i + 1, v, by have := unhide hi; unfold Hid; omega, rfl, by go_num, HG1⟩
    · have hiL : i = L := by have := unhide hi; omega
      subst hiL
      obtain ⟨l, hl⟩ : ∃ l, Hid (hotP f least i = l) := ⟨_, hide rfl⟩
      have HHS : Hid (hotS f least = l.mergeSort (leH f)) := by unfold Hid hotS; rw [unhide hL, unhide hl]
      rw [unhide hl] at hG
      have hll : l.length ≤ 5864062014634 := by rw [← unhide hl]; exact Nat.le_trans (hotP_len f least i) hN
      by_cases h0 : 0 < l.length
      · obtain ⟨blk, off, cap, ev, hc1, hc2, hc3, hc4⟩ := (unhide hG).1.full h0
        subst ev
        have hblk : w.heap.size + 1 ≤ blk := by have := (unhide hG).2.2 blk rfl; omega
        have HRo := hide (unhide hG).1
        have HH := hide ((unhide hG).1.holds h0)
        have HSL : Hid ((l.mergeSort (leH f)).length = l.length) := by simp [Hid]
        have HSF := hide (Tryz.slices_SortFunc_total (Value.int .i64) (fun _ => rfl) (cfH f) (swoH f) 46 #[.pointer (some ⟨w.heap.size, 0, none⟩)] blk off cap l.toArray wr (enters_of Tryz.func46 (by kernel_rfl) rfl) (fun m os dk hdk x y => by
          have hf := sortW_fr wr blk off m dk os
          have hb : Below W0.heap.size W0 (sortWorld (Value.int .i64) wr blk off m dk os) := (unhide hG).2.1.trans (hf.below (unhide hG).2.1.size (fun k hk e => by omega))
          obtain ⟨b1, b2, b3⟩ := unhide HEV _ hb
          refine (hotC_any (unhide HA _ b1) w.heap.size b2 x y).mono fun e w' ⟨h1, h2, h3⟩ => ⟨h1, grow_of h2 h3⟩) (unhide HH) hc3 (by simp; omega) (totH f))
        have hsz : l.toArray.size = l.length := by simp
        rw [hsz] at HSF
        have HBG := hide (unhide hG).2.1
        obtain ⟨N, hNN⟩ : ∃ N, Hid (l.length = N) := ⟨_, hide rfl⟩
        rw [unhide hNN] at HSF ⊢
        clear hc4 hG q0 z0
        go_wp2_with fail
        refine (unhide HSF).mono ?_
        rintro e w1 ⟨rfl, n, os, e1⟩
        have HF : Hid (Gx w 1 enN (hotS f least) (.slice (some ⟨blk, off, none⟩) N cap) w1) := by
          rw [unhide HHS]
          have r1 := sorted_ro (unhide HRo) (unhide HSL) (unhide HH) n os
          have r2 := sortW_fr wr blk off n (l.mergeSort (leH f)).toArray os
          have e2 : w1 = sortWorld (Value.int .i64) wr blk off n (l.mergeSort (leH f)).toArray os := e1
          rw [← e2] at r1 r2
          refine ⟨by rw [unhide HSL, ← unhide hNN]; exact r1, (unhide HBW).trans (r2.below (unhide HBW).size (fun k hk e => by omega)), fun k hk => by cases hk; show w.heap.size ≤ blk; omega⟩
        clear e1 HSF HRo HH
        go_wp2_with fail
        go_ret
        exact ⟨_, rfl, unhide HF⟩
      · have hl0 : l = [] := List.eq_nil_of_length_eq_zero (by omega)
        obtain ⟨va, vc, ev, _, _⟩ := (unhide hG).1.shape
        rw [hl0] at ev
        simp only [List.length_nil] at ev
        subst ev
        have HF : Hid (Gx w 1 enN (hotS f least) (.slice va 0 vc) wr) := by
          rw [unhide HHS, hl0]
          have := (unhide hG).1
          rw [hl0] at this
          exact ⟨by simpa using this, unhide HBW, fun k hk => by have := (unhide hG).2.2 k hk; omega⟩
        have HSF := hide (Tryz.slices_SortFunc_none (α := Int) va vc (.func (.func 46) #[] #[.pointer (some ⟨w.heap.size, 0, none⟩)]) wr)
        clear hG q0 z0
        go_wp2_with fail
        refine (unhide HSF).mono ?_
        rintro e w1 ⟨rfl, e1⟩
        have e2 := e1.symm
        subst e2
        go_wp2_with fail
        go_ret
        exact ⟨_, rfl, unhide HF⟩
end Go.Proofs.YtclcebdcdbcpjaaGreat
