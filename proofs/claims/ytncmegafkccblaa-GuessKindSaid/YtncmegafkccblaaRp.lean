/-
  slices.Repeat of one value.
-/
import Derived.Test.YtncmegafkccblaaWh
import Derived.Laws.CopyOwn
import Derived.Deep.RegionHeld3
namespace Go.Proofs.Ytncmegafkccblaa
open Go.RowKit
set_option linter.unusedVariables false
set_option linter.unusedSimpArgs false
theorem band32 (n : Nat) (h : n < 4294967296) : bits .and .u64 (n : Int) 4294967295 = (n : Int) := by
  have e : bits .and .u64 (n : Int) 4294967295 = ((n % 4294967296 : Nat) : Int) := by go_bits2
  rw [e]; omega
set_option maxRecDepth 100000 in
set_option maxHeartbeats 1600000 in
theorem mul64_one (w : World) (n : Nat) (h : n ≤ 1048576) : Calls Try.prog 29 #[.int .u64 1, .int .u64 (n : Int)] w fun e w' => e = .returned (.tuple #[.int .u64 0, .int .u64 (n : Int)]) ∧ w' = w := by
  have a1 : bits .and .u64 (n : Int) 4294967295 = (n : Int) := band32 n (by omega)
  have a2 : bits .and .u64 1 4294967295 = 1 := band32 1 (by omega)
  have a3 : bits .and .u64 0 4294967295 = 0 := band32 0 (by omega)
  have a4 : (n : Int) / 4294967296 = 0 := by omega
  have a5 : (0 : Int) / 4294967296 = 0 := by decide
  have a6 : (1 : Int) / 4294967296 = 0 := by decide
  have a7 : IntKind.u64.wrap ((n : Int)) = (n : Int) := by go_arith
  go_enter Try.func29, Try.ntmps29
  go_wp2_with fail
  go_ret2
  exact ⟨rfl, rfl⟩
set_option maxRecDepth 100000 in
set_option maxHeartbeats 1600000 in
theorem mul_one_any (w : World) (n : Nat) (h : n ≤ 1048576) : Calls Try.prog 19 #[.int .u64 1, .int .u64 (n : Int)] w fun e w' => e = .returned (.tuple #[.int .u64 0, .int .u64 (n : Int)]) ∧ w' = w := by
  have HM := hide (mul64_one w n h)
  go_enter Try.func19, Try.ntmps19
  go_wp2_with fail
  refine (unhide HM).mono ?_
  rintro e w1 ⟨rfl, ew⟩
  rw [ew]
  clear ew HM w1
  go_wp2_with fail
  go_ret2
  exact ⟨rfl, rfl⟩
theorem splice_at {α : Type} (L : List α) (off : Nat) (cs : List α) (h : off + cs.length ≤ L.length) (j : Nat) : (splice L off cs)[j]? = if j < off then L[j]? else if j < off + cs.length then cs[j - off]? else L[j]? := by
  unfold splice
  by_cases q : j < off
  · rw [if_pos q, List.getElem?_append_left (by simp; omega), List.getElem?_take, if_pos q]
  · rw [if_neg q, List.getElem?_append_right (by simp; omega)]
    have e : j - (List.take off L).length = j - off := by simp; omega
    rw [e]
    by_cases q2 : j < off + cs.length
    · rw [if_pos q2, List.getElem?_append_left (by omega)]
    · rw [if_neg q2, List.getElem?_append_right (by omega), List.getElem?_drop]
      congr 1
      omega

theorem info38v : (Try.prog.info? 38).map (fun i => (i.zero, i.size, i.bytes)) = some (some (.agg #[.int .i64 0, .int .i64 0]), 2, 16) := by kernel_rfl
/-- copy, of elements of two cells. -/
theorem run_copy_two {P : Program} (w : World) (dT sT ty elem : TypeId) (g o dLen dCap : Nat) (a : Addr) (sLen sCap : Nat) (cur : Array Value) (t : TypeId) (cs : List Value) (n : Nat)
    (hu : P.underlying dT = some (.slice elem)) (hs : (P.info? elem).map (·.size) = some 2)
    (hg : w.heap[g]? = some (.cells cur t (0, 0))) (hn : n = Nat.min sLen dLen) (hl : cs.length = n * 2)
    (hsrc : ∀ j v, cs[j]? = some v → w.cell? (a.add j) = some v) (hfit : o + cs.length ≤ cur.size) (h1 : ∀ v ∈ cs, v.oneCell' = true) :
    (Builtin.copy_ #[dT, sT] ty #[.slice (some ⟨g, o, none⟩) dLen dCap, .slice (some a) sLen sCap]).run P w =
      .ok (goInt n) (w.setRow g (cur.toList.take o ++ cs ++ cur.toList.drop (o + cs.length)).toArray) := by
  have hld := run_loadCells_list (P := P) w a cs hsrc
  have hst := run_storeCells_at P g o t cs 0 cur w hg (by simpa using hfit) h1
  rw [hl] at hld
  cases hq : P.info? elem with
  | none => simp [hq] at hs
  | some i =>
    have hi : i.size = 2 := by simpa [hq] using hs
    simp [Builtin.copy_, run_underlying hu, Builtin.lenOf, Builtin.firstCells, sizeOf, typeInfo, hq, hi, ← hn, hld, hst]
theorem step_copy_by {P : Program} {ops : Array Oper} {o : Oper} {a : Act} {w : World} {K : Act → World → Prop} {Q : Exit → Act → World → Prop} {E : Prop}
    (hg : o.guard = none) (d x : Operand) (dT sT : TypeId) (hop : o.op = Op.call { callee := Callee.builtin Builtin.copy, args := #[d, x], argTypes := #[dT, sT] })
    (v u : Value) (hd : a.eval d = v) (hx : a.eval x = u) {v' : Value} {w' : World} (hr : (Builtin.copy_ #[dT, sT] o.type #[v, u]).run P w = .ok v' w') (hK : K (a.put o.dst v') w') :
    if Region.wanted o (yielded ops a.tmps) = true then Oper.wp P o a w K Q else E := by
  have hw : Region.wanted o (yielded ops a.tmps) = true := by simp [Region.wanted, hg]
  rw [if_pos hw]
  unfold Oper.wp
  simp [execOp, hop, resolve, invoke, builtin, hd, hx, hr, Result.andThen]
  exact hK
/-- The cells of a row of one value. -/
def pat (q : Int) (j : Nat) : Value := if j % 2 = 0 then .int .i64 q else .int .i64 0
def pats (q : Int) (n : Nat) : List Value := (List.range (n * 2)).map (pat q)
theorem pats_at (q : Int) (n j : Nat) (h : j < n * 2) : (pats q n)[j]? = some (pat q j) := by unfold pats; simp [h]
theorem pats_len (q : Int) (n : Nat) : (pats q n).length = n * 2 := by simp [pats]
theorem pat_one (q : Int) (j : Nat) : (pat q j).oneCell' = true := by unfold pat; split <;> rfl
theorem pats_one (q : Int) (n : Nat) : ∀ v ∈ pats q n, v.oneCell' = true := fun v hv => by
  unfold pats at hv
  obtain ⟨j, -, rfl⟩ := List.mem_map.1 hv
  exact pat_one q j
theorem pat_add (q : Int) (k j : Nat) : pat q (k * 2 + j) = pat q j := by unfold pat; rw [show (k * 2 + j) % 2 = j % 2 by omega]
/-- The row of Repeat, k of it laid. -/
def RpR (w : World) (q : Int) (g N : Nat) (k : Nat) (wr : World) : Prop :=
  ∃ cur : List Value, wr.heap[g]? = some (.cells cur.toArray 38 (0, 0)) ∧ cur.length = N * 2 ∧ (∀ j, j < k * 2 → cur[j]? = some (pat q j)) ∧ Below w.heap.size w wr ∧ w.heap.size ≤ g
theorem RpR.ar {w : World} {q : Int} {g N : Nat} {wr : World} (h : RpR w q g N N wr) : Ar wr g 0 N q := fun j hj => by
  obtain ⟨cur, h1, h2, h3, h4, h5⟩ := h
  refine ⟨0, ?_, ?_⟩
  · have := h3 (j * 2) (by omega)
    simp only [World.cell?, h1, Nat.zero_add]
    simpa [pat] using this
  · have := h3 (j * 2 + 1) (by omega)
    simp only [World.cell?, h1, Nat.zero_add]
    have e : ¬ (j * 2 + 1) % 2 = 0 := by omega
    simpa [pat, e] using this
theorem rep_made {w w2 : World} {N xb xo : Nat} {q : Int} {xs : List Value} (how : w2.ownsRow w.heap.size 38 2 (.slice (some ⟨w.heap.size, 0, none⟩) N N) N xs) (hgr : w.grownBy w2 none) (hxl : xb < w.heap.size) (hx : w.cell? ⟨xb, xo, none⟩ = some (.int .i64 q)) (hx2 : w.cell? ⟨xb, xo + 1, none⟩ = some (.int .i64 0)) :
    ∃ cur : List Value, Hid (w2.heap[w.heap.size]? = some (.cells cur.toArray 38 (0, 0))) ∧ Hid (cur.length = N * 2) ∧ Hid (Below w.heap.size w w2) ∧ Hid (∀ j v, (pats q 1)[j]? = some v → w2.cell? ((⟨xb, xo, none⟩ : Addr).add j) = some v) := by
  have hB2 : Below w.heap.size w w2 := ⟨hgr.os, hgr.tape, hgr.output, hgr.size, fun k hk => hgr.block k hk (by simp)⟩
  obtain ⟨hxl2, hx3⟩ := how
  rcases hx3 with ⟨e, _⟩ | ⟨g, cap, cur, e, _, hh, _, _, hsz, _⟩
  · cases e
  · cases e
    refine ⟨cur.toList, by simpa [Hid] using hh, by simpa [Hid] using hsz, hB2, fun j v hv => ?_⟩
    have hj : j < 2 := by have := (List.getElem?_eq_some_iff.1 hv).1; rw [pats_len] at this; omega
    rw [Go.WideShapes.add_plain]
    obtain rfl | rfl : j = 0 ∨ j = 1 := by omega
    · rw [pats_at q 1 0 (by omega)] at hv
      cases hv
      exact (hB2.cell (p := ⟨xb, xo, none⟩) hxl).trans hx
    · rw [pats_at q 1 1 (by omega)] at hv
      cases hv
      exact (hB2.cell (p := ⟨xb, xo + 1, none⟩) hxl).trans hx2
theorem rep_first {w w2 : World} {N xb xo xc : Nat} {q : Int} {cur0 : List Value} (h1 : 1 ≤ N) (hc : w2.heap[w.heap.size]? = some (.cells cur0.toArray 38 (0, 0))) (hl : cur0.length = N * 2) (hb : Below w.heap.size w w2) (hs : ∀ j v, (pats q 1)[j]? = some v → w2.cell? ((⟨xb, xo, none⟩ : Addr).add j) = some v) :
    ∃ w3, (Builtin.copy_ #[42, 42] 3 #[.slice (some ⟨w.heap.size, 0, none⟩) N N, .slice (some ⟨xb, xo, none⟩) 1 xc]).run Try.prog w2 = .ok (.int .i64 1) w3 ∧ Hid (RpR w q w.heap.size N 1 w3) := by
  have hrun := run_copy_two (P := Try.prog) w2 42 42 3 38 w.heap.size 0 N N ⟨xb, xo, none⟩ 1 xc cur0.toArray 38 (pats q 1) 1 Try.underlying42 (by kernel_rfl) hc (by simp [Nat.min_def]; omega) (pats_len q 1) hs (by rw [pats_len]; simp; omega) (pats_one q 1)
  refine ⟨_, hrun, ⟨splice cur0 0 (pats q 1), ?_, ?_, fun j hj => ?_, below_setRow hb (Nat.le_refl _) _, Nat.le_refl _⟩⟩
  · simpa [splice] using setRow_heap w2 w.heap.size _ _ 38 _ hc
  · rw [length_splice _ _ _ (by rw [hl, pats_len]; omega)]; exact hl
  · rw [splice_at _ _ _ (by rw [hl, pats_len]; omega), if_neg (by omega), if_pos (by rw [pats_len]; omega), Nat.sub_zero]
    exact pats_at q 1 j hj
theorem rep_none {w w2 : World} {xb xo xc : Nat} {q : Int} {cur0 : List Value} (hc : w2.heap[w.heap.size]? = some (.cells cur0.toArray 38 (0, 0))) (hl : cur0.length = 0 * 2) (hb : Below w.heap.size w w2) :
    ∃ w3, (Builtin.copy_ #[42, 42] 3 #[.slice (some ⟨w.heap.size, 0, none⟩) 0 0, .slice (some ⟨xb, xo, none⟩) 1 xc]).run Try.prog w2 = .ok (.int .i64 0) w3 ∧ Hid (RpR w q w.heap.size 0 0 w3) := by
  have hrun := run_copy_two (P := Try.prog) w2 42 42 3 38 w.heap.size 0 0 0 ⟨xb, xo, none⟩ 1 xc cur0.toArray 38 [] 0 Try.underlying42 (by kernel_rfl) hc (by simp) rfl (by simp) (by simp) (by simp)
  refine ⟨_, hrun, ⟨splice cur0 0 [], ?_, ?_, fun j hj => by omega, below_setRow hb (Nat.le_refl _) _, Nat.le_refl _⟩⟩
  · simpa [splice] using setRow_heap w2 w.heap.size _ _ 38 _ hc
  · rw [length_splice _ _ _ (by simp)]; exact hl
set_option maxRecDepth 100000 in
set_option maxHeartbeats 3200000 in
theorem repeat_any {w : World} {xb xo xc : Nat} {q : Int} (N : Nat) (h1 : 1 ≤ N) (hN : N ≤ 1048576) (hx : w.cell? ⟨xb, xo, none⟩ = some (.int .i64 q)) (hy : w.cell? ⟨xb, xo + 1, none⟩ = some (.int .i64 0)) :
    Calls Try.prog 13 #[.slice (some ⟨xb, xo, none⟩) 1 xc, .int .i64 (N : Int)] w fun e w' => ∃ g, e = .returned (.slice (some ⟨g, 0, none⟩) N N) ∧ RpR w q g N N w' := by
  obtain ⟨i0, hi0, hz0, hz1, hz2⟩ := info_parts info38v
  have HM := hide (mul_one_any w N hN)
  have c1 : ¬ (N : Int) < 0 := by omega
  have cw1 : IntKind.u64.wrap (N : Int) = (N : Int) := by go_arith
  have cw2 : IntKind.u64.wrap 1 = 1 := by decide
  have cw3 : IntKind.i64.wrap (N : Int) = (N : Int) := by go_arith
  have c2 : ¬ (9223372036854775807 : Int) < (N : Int) := by omega
  have HXL : Hid (xb < w.heap.size) := World.block_lt_of_cell? _ _ hx
  have HX := hide hx
  have HY := hide hy
  clear hx hy
  go_enter Try.func13, Try.ntmps13
  go_wp2_with fail
  refine (unhide HM).mono ?_
  rintro e w1 ⟨rfl, ew⟩
  rw [ew]
  clear ew w1 HM
  go_wp2_with (first | (at_make; refine wpList_make_full _ rfl _ _ 42 rfl w.heap.size 38 i0 _ 2 Try.underlying42 hi0 hz0 hz1 _ _ _ _ N rfl rfl rfl rfl (by rw [hz2]; omega) (by unfold maxLen; omega) (Nat.le_refl _) ?_; intro w2 how hgr; obtain ⟨cur0, HC0, HL0, HB2, HSRC0⟩ := rep_made how hgr (unhide HXL) (unhide HX) (unhide HY); clear how hgr; obtain ⟨w3, hrun, HR3⟩ := rep_first (xc := xc) h1 (unhide HC0) (unhide HL0) (unhide HB2) (unhide HSRC0); clear HC0 HL0 HB2 HSRC0))
  clear hrun
  obtain ⟨g, hgg⟩ : ∃ g, g = w.heap.size := ⟨_, rfl⟩
  rw [← hgg] at HR3 ⊢
  clear hgg
  go_loopg [8] N (fun gk t8 wr => ∃ (k : Nat), Hid (k + gk ≤ N + 1 ∧ 1 ≤ k ∧ k ≤ N ∧ N - k ≤ gk) ∧ t8 = .int .i64 (k : Int) ∧ Hid (RpR w q g N k wr))
  case atStart => exact ⟨1, by unfold Hid; omega, rfl, HR3⟩
  case round =>
    obtain ⟨k, hk, rfl, hR⟩ := hrel
    have hk1 := (unhide hk).2.1
    by_cases hlt : k < N
    · have i1 : (k : Int) < (N : Int) := by omega
      have i2 : (0 : Int) ≤ (k : Int) := by omega
      have i3 : (k : Int) ≤ (N : Int) := by omega
      obtain ⟨cur, hg, hcl0, hall, hbd, hgB0⟩ := unhide hR
      have HG := hide hg
      have hcl := hide hcl0
      have HALL := hide hall
      have HBD := hide hbd
      have hgB := hide hgB0
      have hsrc : ∀ j v, (pats q (Nat.min k (N - k)))[j]? = some v → wr.cell? ((⟨g, 0, none⟩ : Addr).add j) = some v := fun j v hv => by
        have hj := (List.getElem?_eq_some_iff.1 hv).1
        rw [pats_len] at hj
        rw [pats_at _ _ _ hj] at hv
        cases hv
        rw [Go.WideShapes.add_plain]
        have := hall j (by have : Nat.min k (N - k) ≤ k := Nat.min_le_left _ _; omega)
        simp [World.cell?, hg]
        simpa using this
      have HSRC := hide (show ∀ j v, (pats q (Nat.min k (N - k)))[j]? = some v → wr.drew.cell? ((⟨g, 0, none⟩ : Addr).add j) = some v from hsrc)
      have HBD' : Hid (Below w.heap.size w wr.drew) := ⟨hbd.os, hbd.tape, hbd.output, hbd.size, hbd.block⟩
      have HG' : Hid (wr.drew.heap[g]? = some (.cells cur.toArray 38 (0, 0))) := hg
      clear hg hcl0 hall hbd hgB0 hsrc
      go_wp2_with fail
      refine wp_region_held_drew (S := (fun _ => True)) (by kernel_rfl) trivial (fun hHeld => ?_)
      refine wpAnyH_take (i := 0) (oi := _) (v := .int .i64 (k : Int)) rfl (by kernel_rfl) (by kernel_rfl) (by kernel_rfl) (fun _ _ _ h => h) (Or.inl ⟨by rfl, (by intro w hSw; go_simp)⟩) (by assumption) ?_
      refine wpAnyH_take (i := 1) (oi := _) (v := .slice (some ⟨g, 0, none⟩) N N) rfl (by kernel_rfl) (by kernel_rfl) (by kernel_rfl) (fun _ _ _ h => h) (Or.inl ⟨by rfl, (by intro w hSw; go_simp)⟩) (by assumption) ?_
      refine wpAnyH_take (i := 2) (oi := _) (v := .int .i64 (k : Int)) rfl (by kernel_rfl) (by kernel_rfl) (by kernel_rfl) (fun _ _ _ h => h) (Or.inl ⟨by rfl, (by intro w hSw; go_simp)⟩) (by assumption) ?_
      go_simp
      refine wpAnyH_take (i := 3) (oi := _) (v := .slice (some ⟨g, k * 2, none⟩) (N - k) (N - k)) rfl (by kernel_rfl) (by kernel_rfl) (by kernel_rfl) (fun _ _ _ h => h) (Or.inl ⟨by rfl, (by intro w hSw; have hne : ¬ N = k := (by omega); go_simp)⟩) (by assumption) ?_
      go_simp
      refine wpAnyH_take (i := 4) (oi := _) (v := .slice (some ⟨g, 0, none⟩) N N) rfl (by kernel_rfl) (by kernel_rfl) (by kernel_rfl) (fun _ _ _ h => h) (Or.inl ⟨by rfl, (by intro w hSw; go_simp)⟩) (by assumption) ?_
      refine wpAnyH_take (i := 5) (oi := _) (v := .int .i64 (k : Int)) rfl (by kernel_rfl) (by kernel_rfl) (by kernel_rfl) (fun _ _ _ h => h) (Or.inl ⟨by rfl, (by intro w hSw; go_simp)⟩) (by assumption) ?_
      refine wpAnyH_take (i := 6) (oi := _) (v := .slice (some ⟨g, 0, none⟩) k N) rfl (by kernel_rfl) (by kernel_rfl) (by kernel_rfl) (fun _ _ _ h => h) (Or.inl ⟨by rfl, (by intro w hSw; go_simp)⟩) (by assumption) ?_
      go_simp
      refine wpAnyH_ready (rs := [7]) (by kernel_rfl) (by simp) ?_
      refine AllReadyH.cons (o := _) rfl (fun K hK => ?_) AllReadyH.nil
      have hrun2 := run_copy_two (P := Try.prog) wr.drew 42 42 3 38 g (k * 2) (N - k) (N - k) ⟨g, 0, none⟩ k N cur.toArray 38 (pats q (Nat.min k (N - k))) (Nat.min k (N - k)) Try.underlying42 (by kernel_rfl) (unhide HG') rfl (pats_len _ _) (unhide HSRC) (by rw [pats_len]; have : Nat.min k (N - k) ≤ N - k := Nat.min_le_right _ _; have := unhide hcl; simp; omega) (pats_one _ _)
      refine step_copy_by rfl (.tmp 41) (.tmp 44) 42 42 rfl _ _ rfl rfl hrun2 ?_
      obtain ⟨w4, hw4⟩ : ∃ w4, w4 = wr.drew.setRow g (cur.toArray.toList.take (k * 2) ++ pats q (Nat.min k (N - k)) ++ cur.toArray.toList.drop (k * 2 + (pats q (Nat.min k (N - k))).length)).toArray := ⟨_, rfl⟩
      have HG4 : Hid (w4.heap[g]? = some (.cells (splice cur (k * 2) (pats q (Nat.min k (N - k)))).toArray 38 (0, 0))) := by rw [hw4]; unfold Hid; simpa [splice] using setRow_heap wr.drew g _ _ 38 _ (unhide HG')
      have HB4 : Hid (Below w.heap.size w w4) := by rw [hw4]; exact below_setRow (unhide HBD') (unhide hgB) _
      rw [← hw4]
      clear hw4 hrun2
      obtain ⟨M, hM⟩ : ∃ M : Nat, Hid (Nat.min k (N - k) = M) := ⟨_, rfl⟩
      rw [unhide hM] at HG4 ⊢
      have hM1 : 1 ≤ M := by rw [← unhide hM]; exact Nat.le_min.2 ⟨hk1, by omega⟩
      have hM2 : k + M ≤ N := by have : Nat.min k (N - k) ≤ N - k := Nat.min_le_right _ _; rw [unhide hM] at this; omega
      refine hK.out _ _ trivial (fun hHeld7 => ?_)
      clear hK K
      unfold goInt
      go_simp
      refine wpAnyH_take (i := 8) (oi := _) (v := .int .i64 ((k : Int) + (M : Int))) rfl (by kernel_rfl) (by kernel_rfl) (by kernel_rfl) (fun _ _ _ h => h) (Or.inl ⟨by rfl, (by intro w hSw; have hwr : IntKind.i64.wrap ((k : Int) + (M : Int)) = (k : Int) + (M : Int) := (by go_arith); go_simp)⟩) (by assumption) ?_
      go_simp
      refine wpAnyH_ready (rs := [9]) (by kernel_rfl) (by simp) ?_
      refine AllReadyH.cons (o := _) rfl (fun K hK => ?_) AllReadyH.nil
      go_simp
      refine hK.out _ _ trivial (fun hHeld9 => ?_)
      clear hK K
      go_simp
      refine wpAnyH_done (by kernel_rfl) ?_ _
      clear hHeld hHeld7 hHeld9
      have hR4 : RpR w q g N (k + M) w4 := by
        refine ⟨_, unhide HG4, ?_, fun j hj => ?_, unhide HB4, unhide hgB⟩
        · rw [length_splice _ _ _ (by rw [unhide hcl, pats_len]; omega)]; exact unhide hcl
        · rw [splice_at _ _ _ (by rw [unhide hcl, pats_len]; omega)]
          by_cases hq : j < k * 2
          · rw [if_pos hq]; exact unhide HALL j hq
          · rw [if_neg hq, if_pos (by rw [pats_len]; omega), pats_at _ _ _ (by omega)]
            obtain ⟨i, rfl⟩ : ∃ i, j = k * 2 + i := ⟨j - k * 2, by omega⟩
            rw [pat_add, show k * 2 + i - k * 2 = i by omega]
      have HR4 := hide hR4
      clear hR4 HG4 HB4
      go_wp2_with fail
      go_roundg (gk - M)
      case measure => have := unhide hk; omega
      case rel => exact ⟨k + M, by have := unhide hk; unfold Hid; omega, by go_num, HR4⟩
    · have hkN : k = N := by have := unhide hk; omega
      subst hkN
      go_wp2_with fail
      go_ret
      exact ⟨g, rfl, unhide hR⟩
set_option maxRecDepth 100000 in
set_option maxHeartbeats 800000 in
theorem repeat_zero {w : World} {xb xo xc : Nat} {q : Int} (hx : w.cell? ⟨xb, xo, none⟩ = some (.int .i64 q)) (hy : w.cell? ⟨xb, xo + 1, none⟩ = some (.int .i64 0)) :
    Calls Try.prog 13 #[.slice (some ⟨xb, xo, none⟩) 1 xc, .int .i64 0] w fun e w' => ∃ g, e = .returned (.slice (some ⟨g, 0, none⟩) 0 0) ∧ RpR w q g 0 0 w' := by
  obtain ⟨i0, hi0, hz0, hz1, hz2⟩ := info_parts info38v
  have HM := hide (mul_one_any w 0 (by omega))
  have HXL : Hid (xb < w.heap.size) := World.block_lt_of_cell? _ _ hx
  have HX := hide hx
  have HY := hide hy
  clear hx hy
  go_enter Try.func13, Try.ntmps13
  go_wp2_with fail
  refine (unhide HM).mono ?_
  rintro e w1 ⟨rfl, ew⟩
  rw [ew]
  clear ew w1 HM
  go_wp2_with (first | (at_make; refine wpList_make_full _ rfl _ _ 42 rfl w.heap.size 38 i0 _ 2 Try.underlying42 hi0 hz0 hz1 _ _ _ _ 0 rfl rfl rfl rfl (by rw [hz2]; omega) (by unfold maxLen; omega) (Nat.le_refl _) ?_; intro w2 how hgr; obtain ⟨cur0, HC0, HL0, HB2, HSRC0⟩ := rep_made how hgr (unhide HXL) (unhide HX) (unhide HY); clear how hgr; obtain ⟨w3, hrun, HR3⟩ := rep_none (xb := xb) (xo := xo) (xc := xc) (q := q) (unhide HC0) (unhide HL0) (unhide HB2); clear HC0 HL0 HB2 HSRC0))
  clear hrun
  obtain ⟨g, hgg⟩ : ∃ g, g = w.heap.size := ⟨_, rfl⟩
  rw [← hgg] at HR3 ⊢
  clear hgg
  go_loopg [8] 0 (fun gk t8 wr => t8 = .int .i64 0 ∧ Hid (RpR w q g 0 0 wr))
  case atStart => exact ⟨rfl, HR3⟩
  case round =>
    obtain ⟨rfl, hR⟩ := hrel
    go_wp2_with fail
    go_ret
    exact ⟨g, rfl, unhide hR⟩
end Go.Proofs.Ytncmegafkccblaa
