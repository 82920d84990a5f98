/-
  What was taken out of a block: the law's own way.
-/
import Derived.Test.YtpbdmbmafjkinaaDoorSd3
import Derived.Test.YtpbdmbmafjkinaaDoorTw1
import Derived.Test.YtpbdmbmafjkinaaDoorAk
import Derived.Test.YtpbdmbmafjkinaaDoorRu
namespace Go.Proofs.YtpbdmbmafjkinaaDoor
open Go.RowKit
set_option linter.unusedVariables false
set_option linter.unusedSimpArgs false
set_option maxRecDepth 100000 in
set_option maxHeartbeats 3200000 in
theorem quietL_any {w : World} {x : RIn} {op code dst n pc need : Int} {aa ea : Option Addr} {al ac el ec : Nat} (h1 : op = x.op) :
    Calls Tryd.prog 17 #[.agg #[.int .i64 op, .int .i64 code, .int .i64 dst, .slice aa al ac, .int .i64 n, .int .i64 pc, .int .i64 need, .slice ea el ec]] w fun e w' => e = .returned (.bool (quiet x)) ∧ Below w.heap.size w w' := by
  obtain ⟨W, hW⟩ : ∃ W, Hid (w.alloc (.cells #[.int .i64 op, .int .i64 code, .int .i64 dst, .slice aa al ac, .int .i64 n, .int .i64 pc, .int .i64 need, .slice ea el ec] 51) = W) := ⟨_, hide rfl⟩
  have HW : Hid (Below w.heap.size w W) := by rw [← unhide hW]; exact box1n w _
  have hn := heap_alloc_new w (.cells #[.int .i64 op, .int .i64 code, .int .i64 dst, .slice aa al ac, .int .i64 n, .int .i64 pc, .int .i64 need, .slice ea el ec] 51)
  rw [unhide hW] at hn
  have c0 := (blk_cells hn).1 0
  have cl := (blk_cells hn).2.2
  simp at c0
  have hW' := unhide hW
  clear hn
  by_cases o1 : op = 1
  · have hi : quiet x = true := by simp [quiet, ← h1, o1]
    rw [hi]
    subst o1
    clear h1 hi
    go_enter Tryd.func17, Tryd.ntmps17
    go_wp2_with fail
    go_ret
    exact ⟨rfl, unhide HW⟩
  · by_cases o2 : op = 2
    · have hi : quiet x = true := by simp [quiet, ← h1, o2]
      rw [hi]
      subst o2
      clear h1 hi o1
      go_enter Tryd.func17, Tryd.ntmps17
      go_wp2_with fail
      go_ret
      exact ⟨rfl, unhide HW⟩
    · have hi : quiet x = false := by simp [quiet, ← h1, o1, o2]
      rw [hi]
      have e1 : (op == 1) = false := by simp [o1]
      have e2 : (op == 2) = false := by simp [o2]
      have e3 : decide (op = 1) = false := by simp [o1]
      have e4 : decide (op = 2) = false := by simp [o2]
      clear h1 hi o1 o2
      go_enter Tryd.func17, Tryd.ntmps17
      go_wp2_with fail
      go_ret
      exact ⟨rfl, unhide HW⟩

def rowG (R : Rset) (l : List RIn) (j : Nat) : List Bool := (List.range l.length).map (fun p => decide (j ≤ p) && gone R l p)
theorem rowG_len (R : Rset) (l : List RIn) (j : Nat) : (rowG R l j).length = l.length := by simp [rowG]
theorem rowG_at (R : Rset) (l : List RIn) (j : Nat) {p : Nat} (h : p < l.length) : (rowG R l j)[p]? = some (decide (j ≤ p) && gone R l p) := by simp [rowG, h]
theorem rowG_end (R : Rset) (l : List RIn) : rowG R l l.length = List.replicate l.length false := by
  refine List.ext_getElem? (fun p => ?_)
  by_cases h : p < l.length
  · rw [rowG_at R l _ h, List.getElem?_replicate, if_pos h]
    have : ¬ l.length ≤ p := by omega
    simp [this]
  · rw [List.getElem?_eq_none (by rw [rowG_len]; omega), List.getElem?_eq_none (by rw [List.length_replicate]; omega)]
theorem rowG_put (R : Rset) {l : List RIn} {i : Nat} (hi : i < l.length) (hg : gone R l i = true) : (rowG R l (i + 1)).set i true = rowG R l i := by
  refine List.ext_getElem? (fun p => ?_)
  by_cases h : p < l.length
  · by_cases e : p = i
    · subst e
      rw [List.getElem?_set_self (by rw [rowG_len]; exact h), rowG_at R l _ h, hg]; simp
    · rw [List.getElem?_set_ne (fun q => e q.symm), rowG_at R l _ h, rowG_at R l _ h]
      have : decide (i + 1 ≤ p) = decide (i ≤ p) := by
        by_cases q : i ≤ p
        · rw [decide_eq_true q, decide_eq_true (by omega)]
        · rw [decide_eq_false q, decide_eq_false (by omega)]
      rw [this]
  · rw [List.getElem?_eq_none (by rw [List.length_set, rowG_len]; omega), List.getElem?_eq_none (by rw [rowG_len]; omega)]
theorem rowG_skip (R : Rset) {l : List RIn} {i : Nat} (hg : gone R l i = false) : rowG R l (i + 1) = rowG R l i := by
  refine List.ext_getElem? (fun p => ?_)
  by_cases h : p < l.length
  · rw [rowG_at R l _ h, rowG_at R l _ h]
    by_cases e : p = i
    · subst e; rw [hg]; simp
    · have : decide (i + 1 ≤ p) = decide (i ≤ p) := by
        by_cases q : i ≤ p
        · rw [decide_eq_true q, decide_eq_true (by omega)]
        · rw [decide_eq_false q, decide_eq_false (by omega)]
      rw [this]
  · rw [List.getElem?_eq_none (by rw [rowG_len]; omega), List.getElem?_eq_none (by rw [rowG_len]; omega)]
/-- While the block is gone through from its end. -/
structure TkS (w : World) (R : Rset) (l : List RIn) (b0 b1 : Array Value) (n j : Nat) (X : World) : Prop where
  bw : Below w.heap.size w X
  h0 : X.heap[w.heap.size]? = some (.cells b0 47)
  h1 : X.heap[w.heap.size + 1]? = some (.cells b1 47)
  ro : Ro X 1 (.slice (some ⟨w.heap.size + 2, 0, none⟩) n n) n (flt enBo (rowG R l j))
theorem TkS.on {w : World} {R : Rset} {l : List RIn} {b0 b1 : Array Value} {n j : Nat} {X Y : World} (h : TkS w R l b0 b1 n j X) (f : Below X.heap.size X Y) : TkS w R l b0 b1 n j Y :=
  ⟨bl_past h.bw f, (f.block _ (Array.getElem?_eq_some_iff.1 h.h0).1).trans h.h0, (f.block _ (Array.getElem?_eq_some_iff.1 h.h1).1).trans h.h1, h.ro.fr (Fr.of_below (S := fun _ => False) f) (fun _ _ e => e)⟩
theorem TkS.cell {w : World} {R : Rset} {l : List RIn} {b0 b1 : Array Value} {n j i : Nat} {X : World} (h : TkS w R l b0 b1 n j X) (hi : i < n) : w.heap.size + 2 < X.heap.size ∧ (∃ u, X.cell? ⟨w.heap.size + 2, i, none⟩ = some u) ∧ X.frozen? ⟨w.heap.size + 2, i, none⟩ = false ∧ w.heap.size + 1 < X.heap.size := by
  have hl := (Array.getElem?_eq_some_iff.1 h.h1).1
  obtain ⟨g, off, cap, e, _, _, hb, hc⟩ := h.ro.full (by omega)
  cases e
  obtain ⟨u, hu⟩ : ∃ u, (flt enBo (rowG R l j))[i]? = some u := ⟨_, List.getElem?_eq_getElem (by rw [h.ro.1]; omega)⟩
  refine ⟨hb, ⟨u, ?_⟩, by have q := h.ro.free rfl i; exact q, hl⟩
  have q := hc i (by omega)
  rw [hu, Nat.zero_add] at q
  exact q
theorem TkS.put {w : World} {R : Rset} {l : List RIn} {b0 b1 : Array Value} {n i : Nat} {X : World} {x : RIn} (h : TkS w R l b0 b1 n (i + 1) X) (hx : l[i]? = some x) (hg : gone R l i = true) : TkS w R l b0 b1 n i (X.setCell ⟨w.heap.size + 2, i, none⟩ (.bool true)) := by
  have hi := (List.getElem?_eq_some_iff.1 hx).1
  have q := Ro.put1 zBo h.ro rfl (i := i) (c := 0) (x' := true) (u := .bool true) (rowG_at R l (i + 1) hi) (by omega) rfl
  rw [rowG_put R hi hg] at q
  obtain ⟨q1, q2⟩ := q
  simp only [Nat.zero_add, Nat.mul_one, Nat.add_zero] at q1 q2
  have hs := h.bw.size
  exact ⟨h.bw.trans (q2.below hs (fun k hk e => by omega)), (q2.block _ (Array.getElem?_eq_some_iff.1 h.h0).1 (by omega)).trans h.h0, (q2.block _ (Array.getElem?_eq_some_iff.1 h.h1).1 (by omega)).trans h.h1, q1⟩
def TkP (w : World) (R : Rset) (l : List RIn) (e : Ending) (w' : World) : Prop := ∃ g, e = .returned (.tuple #[.slice (some ⟨g, 0, none⟩) l.length l.length, .bool true]) ∧ Below w.heap.size w w' ∧ w.heap.size ≤ g ∧ Ro w' 1 (.slice (some ⟨g, 0, none⟩) l.length l.length) l.length (flt enBo (rowG R l 0))
set_option maxRecDepth 100000 in
set_option maxHeartbeats 12800000 in
theorem taken_any {w : World} {D D' : Nat → Prop} {u : Bk} {R : Rset} {r q : BkR} (ha : BkP D w u r) (hb : BkP D' w ⟨u.pc, kepL R u.ins, u.nx⟩ q) (hO : OkL u) :
    Calls Tryd.prog 16 #[bkV r, bkV q] w (TkP w R u.ins) := by
  obtain ⟨rpc, riv, rnv⟩ := r
  obtain ⟨qpc, qiv, qnv⟩ := q
  obtain ⟨p1, p2, p3⟩ := ha
  obtain ⟨s1, s2, s3⟩ := hb
  simp only at p1 p2 p3 s1 s2 s3
  subst p1 s1
  obtain ⟨ia, ic, rfl, hi1, hi2⟩ := NV.shape p2
  obtain ⟨na, nc, rfl, hn1, hn2⟩ := p3.1.shape
  obtain ⟨ka, kc, rfl, hk1, hk2⟩ := NV.shape s2
  obtain ⟨ma, mc, rfl, hm1, hm2⟩ := s3.1.shape
  obtain ⟨n, hnn⟩ : ∃ z, Hid (u.ins.length = z) := ⟨_, hide rfl⟩
  obtain ⟨M, hM⟩ : ∃ z, Hid ((kepL R u.ins).length = z) := ⟨_, hide rfl⟩
  obtain ⟨NL, hNL⟩ : ∃ z, Hid (u.nx.length = z) := ⟨_, hide rfl⟩
  have hMn : M ≤ n := by rw [← unhide hM, ← unhide hnn]; exact kepL_len _ _
  have hn8 : n ≤ 1048576 := by rw [← unhide hnn]; exact hO.1
  have HOX : Hid (∀ x ∈ u.ins, OkX x) := fun x hx => hO.2.2 x hx
  unfold maxLen at hi2 hn2 hk2 hm2
  have HN : Hid (∀ W, Below w.heap.size w W → Calls Tryd.prog 10 #[.slice ma NL mc, .slice na NL nc] W fun e w' => e = .returned (.bool true) ∧ Below W.heap.size W w') := fun W hW => by
    rw [← unhide hNL]
    exact sameI_yes (s3.1.below hW (Nat.le_refl _)) (p3.1.below hW (Nat.le_refl _)) (by have := hO.2.1; omega)
  have HI := hide p2
  have HK := hide s2
  unfold bkV TkP
  dsimp only
  rw [unhide hnn] at hi1 HI ⊢
  rw [unhide hM] at hk1 HK ⊢
  rw [unhide hNL] at hn1 hm1 ⊢
  clear p2 p3 s2 s3 hO
  obtain ⟨W0, hW0⟩ : ∃ W0, Hid (((w.alloc (.cells #[.int .i64 u.pc, .slice ia n ic, .slice na NL nc] 47)).alloc (.cells #[.int .i64 u.pc, .slice ka M kc, .slice ma NL mc] 47)).alloc (moB n) = W0) := ⟨_, hide rfl⟩
  have HT0 : Hid (TkS w R u.ins #[.int .i64 u.pc, .slice ia n ic, .slice na NL nc] #[.int .i64 u.pc, .slice ka M kc, .slice ma NL mc] n n W0) := by
    obtain ⟨q1, q2, q3⟩ := blk3 w (.cells #[.int .i64 u.pc, .slice ia n ic, .slice na NL nc] 47) (.cells #[.int .i64 u.pc, .slice ka M kc, .slice ma NL mc] 47) (moB n)
    rw [unhide hW0] at q1 q2 q3
    refine ⟨by rw [← unhide hW0]; exact bl_three w _ _ _, q1, q2, ?_⟩
    have q := made_ro enBo false (Value.bool false).cells 1 zBo (by decide) rfl ((w.alloc (.cells #[.int .i64 u.pc, .slice ia n ic, .slice na NL nc] 47)).alloc (.cells #[.int .i64 u.pc, .slice ka M kc, .slice ma NL mc] 47)) 4 n (by unfold maxLen; omega)
    have hsz : ((w.alloc (.cells #[.int .i64 u.pc, .slice ia n ic, .slice na NL nc] 47)).alloc (.cells #[.int .i64 u.pc, .slice ka M kc, .slice ma NL mc] 47)).heap.size = w.heap.size + 2 := by simp
    rw [hsz] at q
    rw [← unhide hnn, rowG_end, unhide hnn, ← unhide hW0]
    exact q
  have hmk := mk72 (N := n) (by omega)
  have HCB : Hid (∀ V, (∃ j, TkS w R u.ins #[.int .i64 u.pc, .slice ia n ic, .slice na NL nc] #[.int .i64 u.pc, .slice ka M kc, .slice ma NL mc] n j V) → w.heap.size + 1 < V.heap.size ∧ V.cell? ⟨w.heap.size, 0, none⟩ = some (.int .i64 u.pc) ∧ V.cell? ⟨w.heap.size, 1, none⟩ = some (.slice ia n ic) ∧ V.cell? ⟨w.heap.size, 2, none⟩ = some (.slice na NL nc) ∧ V.cell? ⟨w.heap.size + 1, 0, none⟩ = some (.int .i64 u.pc) ∧ V.cell? ⟨w.heap.size + 1, 1, none⟩ = some (.slice ka M kc) ∧ V.cell? ⟨w.heap.size + 1, 2, none⟩ = some (.slice ma NL mc)) := fun V ⟨j, hV⟩ => by
    obtain ⟨a1, _, a3⟩ := blk_cells hV.h0
    obtain ⟨c1, _, c3⟩ := blk_cells hV.h1
    exact ⟨c3, a1 0, a1 1, a1 2, c1 0, c1 1, c1 2⟩
  obtain ⟨vl, v0, v1, v2, v3, v4, v5⟩ := unhide HCB W0 ⟨_, unhide HT0⟩
  have hW0' := unhide hW0
  go_enter Tryd.func16, Tryd.ntmps16
  go_wp2_with fail
  clear hmk hW0' hW0 vl v0 v1 v2 v3 v4 v5
  simp only [show w.heap.size + 1 + 1 = w.heap.size + 2 from rfl]
  refine (unhide HN W0 (unhide HT0).bw).mono ?_
  rintro e w1 ⟨rfl, b1⟩
  have HT1 := hide ((unhide HT0).on b1)
  obtain ⟨vl, v0, v1, v2, v3, v4, v5⟩ := unhide HCB w1 ⟨_, unhide HT1⟩
  have hKn : Hid (cntK R u.ins n = M) := by unfold Hid; rw [← unhide hnn, cntK_all, unhide hM]
  clear b1 HT0
  go_wp2_with fail
  clear vl v0 v1 v2 v3 v4 v5
  go_loopg [8, 7] n (fun gg t8 t7 wr => ∃ (j K : Nat), Hid (j = gg ∧ j ≤ n ∧ cntK R u.ins j = K) ∧ t8 = .int .i64 ((j : Int) - 1) ∧ t7 = .int .i64 ((K : Int) - 1) ∧ Hid (TkS w R u.ins #[.int .i64 u.pc, .slice ia n ic, .slice na NL nc] #[.int .i64 u.pc, .slice ka M kc, .slice ma NL mc] n j wr))
  case atStart => exact ⟨n, M, ⟨rfl, Nat.le_refl _, unhide hKn⟩, by go_num, by go_num, HT1⟩
  case round =>
    clear HT1
    obtain ⟨j, K, hj, rfl, rfl, hT⟩ := hrel
    obtain ⟨vl, v0, v1, v2, v3, v4, v5⟩ := unhide HCB wr ⟨_, unhide hT⟩
    by_cases hj0 : j = 0
    · subst hj0
      have hK0 : K = 0 := by have q := (unhide hj).2.2; rw [cntK_zero] at q; exact q.symm
      subst hK0
      have z0 : ((0 : Nat) : Int) - 1 = -1 := rfl
      rw [z0]
      clear hj
      go_wp2_with fail
      go_ret2
      exact ⟨_, rfl, (unhide hT).bw, by omega, (unhide hT).ro⟩
    · obtain ⟨i, rfl⟩ : ∃ i, j = i + 1 := ⟨j - 1, by omega⟩
      have hin : i < n := by have := (unhide hj).2.1; omega
      have hgi : gk = i + 1 := (unhide hj).1.symm
      obtain ⟨x, hx⟩ : ∃ x, u.ins[i]? = some x := ⟨_, List.getElem?_eq_getElem (by rw [unhide hnn]; exact hin)⟩
      have ei : ((i + 1 : Nat) : Int) - 1 = (i : Int) := by omega
      rw [ei]
      obtain ⟨ib, io, aa, ac, ea, ec, e4, hib, hP, ha1, ha2, he1, he2, hcx⟩ := InsV.at8 (unhide HI) hx
      subst e4
      obtain ⟨AL, hAL⟩ : ∃ z, Hid (x.args.length = z) := ⟨_, hide rfl⟩
      obtain ⟨EL, hEL⟩ : ∃ z, Hid (x.ex.length = z) := ⟨_, hide rfl⟩
      rw [unhide hAL, unhide hEL] at hcx
      have HX := hide hx
      have HBW := hide (unhide hT).bw
      have HXC : Hid (∀ V, Below wr.heap.size wr V → ib < V.heap.size ∧ V.cell? ⟨ib, io + i * 8, none⟩ = some (.int .i64 x.op) ∧ V.cell? ⟨ib, io + i * 8 + 1, none⟩ = some (.int .i64 x.code) ∧ V.cell? ⟨ib, io + i * 8 + 2, none⟩ = some (.int .i64 x.dst) ∧ V.cell? ⟨ib, io + i * 8 + 3, none⟩ = some (.slice aa AL ac) ∧ V.cell? ⟨ib, io + i * 8 + 4, none⟩ = some (.int .i64 x.n) ∧ V.cell? ⟨ib, io + i * 8 + 5, none⟩ = some (.int .i64 x.pc) ∧ V.cell? ⟨ib, io + i * 8 + 6, none⟩ = some (.int .i64 x.need) ∧ V.cell? ⟨ib, io + i * 8 + 7, none⟩ = some (.slice ea EL ec)) := fun V hV => hcx V (bl_past (unhide HBW) hV)
      have HB : Hid (∀ V, Below wr.heap.size wr V → w.heap.size < V.heap.size ∧ w.heap.size + 1 < V.heap.size ∧ V.cell? ⟨w.heap.size, 1, none⟩ = some (.slice (some ⟨ib, io, none⟩) n ic) ∧ V.cell? ⟨w.heap.size + 1, 1, none⟩ = some (.slice ka M kc)) := fun V hV => by
        obtain ⟨a0, a1, a2, a3, a4, a5, a6⟩ := unhide HCB V ⟨_, (unhide hT).on hV⟩
        exact ⟨by omega, a0, a2, a5⟩
      have HPX := hide hP
      have i0 : (0 : Int) ≤ (i : Int) := by omega
      have i1 : (i : Int) < (n : Int) := by omega
      have HS0 : Hid (Below wr.heap.size wr wr.drew) := bl_drew wr
      clear hcx hP hx ei
      cases hg : gone R u.ins i with
      | true =>
        have HG := hide hg
        have HQ : Hid (quiet x = true) := gone_quiet (unhide HX) hg
        have hcg := cntK_gone (unhide HX) hg
        by_cases hK : K = 0
        · subst hK
          have HK2 : Hid (cntK R u.ins i = 0) := by unfold Hid; rw [← hcg]; exact (unhide hj).2.2
          have z0 : ((0 : Nat) : Int) - 1 = -1 := rfl
          rw [z0]
          clear hg hcg
          go_wp2_with fail
          clear vl v0 v1 v2 v3 v4 v5
          refine wp_region_held_drew (S := fun V => Below wr.heap.size wr V) (by kernel_rfl) (unhide HS0) (fun hHeld => ?_)
          clear hHeld
          refine wpAnyH_take (i := 0) (oi := _) (v := .int .i64 (-1)) rfl (by kernel_rfl) (by kernel_rfl) (by kernel_rfl) (fun _ _ _ h => h) (Or.inl ⟨by rfl, (by intro w' hSw; go_simp; first | done | rfl)⟩) (unhide HS0) ?_
          go_simp
          refine wpAnyH_take (i := 1) (oi := _) (v := .bool false) rfl (by kernel_rfl) (by kernel_rfl) (by kernel_rfl) (fun _ _ _ h => h) (Or.inl ⟨by rfl, (by intro w' hSw; go_simp; first | done | rfl)⟩) (unhide HS0) ?_
          go_simp
          refine wpAnyH_take (i := 2) (oi := _) (v := .bool false) rfl (by kernel_rfl) (by kernel_rfl) (by kernel_rfl) (fun _ _ _ h => h) (Or.inl ⟨by rfl, (by intro w' hSw; go_simp; first | done | rfl)⟩) (unhide HS0) ?_
          go_simp
          refine wpAnyH_take (i := 3) (oi := _) (v := undef) rfl (by kernel_rfl) (by kernel_rfl) (by kernel_rfl) (fun _ _ _ h => h) (Or.inr ⟨by rfl, rfl⟩) (unhide HS0) ?_
          go_simp
          refine wpAnyH_take (i := 4) (oi := _) (v := undef) rfl (by kernel_rfl) (by kernel_rfl) (by kernel_rfl) (fun _ _ _ h => h) (Or.inr ⟨by rfl, rfl⟩) (unhide HS0) ?_
          go_simp
          refine wpAnyH_take (i := 5) (oi := _) (v := undef) rfl (by kernel_rfl) (by kernel_rfl) (by kernel_rfl) (fun _ _ _ h => h) (Or.inr ⟨by rfl, rfl⟩) (unhide HS0) ?_
          go_simp
          refine wpAnyH_take (i := 6) (oi := _) (v := undef) rfl (by kernel_rfl) (by kernel_rfl) (by kernel_rfl) (fun _ _ _ h => h) (Or.inr ⟨by rfl, rfl⟩) (unhide HS0) ?_
          go_simp
          refine wpAnyH_take (i := 7) (oi := _) (v := undef) rfl (by kernel_rfl) (by kernel_rfl) (by kernel_rfl) (fun _ _ _ h => h) (Or.inr ⟨by rfl, rfl⟩) (unhide HS0) ?_
          go_simp
          refine wpAnyH_take (i := 8) (oi := _) (v := undef) rfl (by kernel_rfl) (by kernel_rfl) (by kernel_rfl) (fun _ _ _ h => h) (Or.inr ⟨by rfl, rfl⟩) (unhide HS0) ?_
          go_simp
          refine wpAnyH_take (i := 9) (oi := _) (v := undef) rfl (by kernel_rfl) (by kernel_rfl) (by kernel_rfl) (fun _ _ _ h => h) (Or.inr ⟨by rfl, rfl⟩) (unhide HS0) ?_
          go_simp
          refine wpAnyH_take (i := 10) (oi := _) (v := undef) rfl (by kernel_rfl) (by kernel_rfl) (by kernel_rfl) (fun _ _ _ h => h) (Or.inr ⟨by rfl, rfl⟩) (unhide HS0) ?_
          go_simp
          refine wpAnyH_take (i := 11) (oi := _) (v := undef) rfl (by kernel_rfl) (by kernel_rfl) (by kernel_rfl) (fun _ _ _ h => h) (Or.inr ⟨by rfl, rfl⟩) (unhide HS0) ?_
          go_simp
          refine wpAnyH_take (i := 12) (oi := _) (v := undef) rfl (by kernel_rfl) (by kernel_rfl) (by kernel_rfl) (fun _ _ _ h => h) (Or.inr ⟨by rfl, rfl⟩) (unhide HS0) ?_
          go_simp
          refine wpAnyH_ready (rs := [13]) (by kernel_rfl) (by simp) ?_
          refine AllReadyH.cons (o := _) rfl (fun K hK => ?_) AllReadyH.nil
          go_simp
          refine hK.out _ _ (unhide HS0) (fun _ => ?_)
          clear hK K
          go_simp
          refine wpAnyH_take (i := 14) (oi := _) (v := .bool false) rfl (by kernel_rfl) (by kernel_rfl) (by kernel_rfl) (fun _ _ _ h => h) (Or.inl ⟨by rfl, (by intro w' hSw; go_simp; first | done | rfl)⟩) (unhide HS0) ?_
          go_simp
          refine wpAnyH_done (by kernel_rfl) ?_ _
          obtain ⟨Z, hZ⟩ : ∃ Z, Hid (wr.drew = Z) := ⟨_, hide rfl⟩
          have HZ : Hid (Below wr.heap.size wr Z) := by rw [← unhide hZ]; exact unhide HS0
          rw [unhide hZ]
          clear hZ
          obtain ⟨m0, m1, m2, m3⟩ := unhide HB Z (unhide HZ)
          obtain ⟨q0, q1, q2, q3, q4, q5, q6, q7, q8⟩ := unhide HXC Z (unhide HZ)
          go_wp2_with fail
          clear m0 m1 m2 m3 q0 q1 q2 q3 q4 q5 q6 q7 q8
          refine (quietL_any (w := Z) (x := x) rfl).mono ?_
          rintro e Z2 ⟨rfl, hZ2⟩
          have HZ2 : Hid (Below wr.heap.size wr Z2) := (unhide HZ).trans (hZ2.mono (unhide HZ).size)
          rw [unhide HQ]
          have HT2 := hide ((unhide hT).on (unhide HZ2))
          obtain ⟨f0, ⟨fu, f1⟩, f2, f3⟩ := (unhide HT2).cell hin
          have HPUT := hide ((unhide HT2).put (unhide HX) (unhide HG))
          clear hZ2
          go_wp2_with fail
          go_roundg i
          case measure => omega
          case rel => exact ⟨i, _, ⟨rfl, by omega, unhide HK2⟩, by go_num, by go_num, HPUT⟩
        · obtain ⟨k, rfl⟩ : ∃ k, K = k + 1 := ⟨K - 1, by omega⟩
          have HK2 : Hid (cntK R u.ins i = k + 1) := by unfold Hid; rw [← hcg]; exact (unhide hj).2.2
          have ek : ((k + 1 : Nat) : Int) - 1 = (k : Int) := by omega
          rw [ek]
          have hkM : k < M := by have h1 := cntK_le R u.ins i; have h2 := unhide hM; have h3 := unhide HK2; omega
          obtain ⟨y, hy⟩ : ∃ y, (kepL R u.ins)[k]? = some y := ⟨_, List.getElem?_eq_getElem (by rw [unhide hM]; exact hkM)⟩
          have hne : x ≠ y := gone_last (unhide HX) hg (by rw [unhide HK2]; omega) (by rw [unhide HK2]; exact hy)
          obtain ⟨kb, ko, ca, cc, fa, fc, e5, hkb, hPy, hc1, hc2, hf1, hf2, hcy⟩ := InsV.at8 (unhide HK) hy
          subst e5
          obtain ⟨CL, hCL⟩ : ∃ z, Hid (y.args.length = z) := ⟨_, hide rfl⟩
          obtain ⟨FL, hFL⟩ : ∃ z, Hid (y.ex.length = z) := ⟨_, hide rfl⟩
          rw [unhide hCL, unhide hFL] at hcy
          have HYC : Hid (∀ V, Below wr.heap.size wr V → kb < V.heap.size ∧ V.cell? ⟨kb, ko + k * 8, none⟩ = some (.int .i64 y.op) ∧ V.cell? ⟨kb, ko + k * 8 + 1, none⟩ = some (.int .i64 y.code) ∧ V.cell? ⟨kb, ko + k * 8 + 2, none⟩ = some (.int .i64 y.dst) ∧ V.cell? ⟨kb, ko + k * 8 + 3, none⟩ = some (.slice ca CL cc) ∧ V.cell? ⟨kb, ko + k * 8 + 4, none⟩ = some (.int .i64 y.n) ∧ V.cell? ⟨kb, ko + k * 8 + 5, none⟩ = some (.int .i64 y.pc) ∧ V.cell? ⟨kb, ko + k * 8 + 6, none⟩ = some (.int .i64 y.need) ∧ V.cell? ⟨kb, ko + k * 8 + 7, none⟩ = some (.slice fa FL fc)) := fun V hV => hcy V (bl_past (unhide HBW) hV)
          have HSX : Hid (∀ V, Below wr.heap.size wr V → Calls Tryd.prog 34 #[.agg #[.int .i64 x.op, .int .i64 x.code, .int .i64 x.dst, .slice aa AL ac, .int .i64 x.n, .int .i64 x.pc, .int .i64 x.need, .slice ea EL ec], .agg #[.int .i64 y.op, .int .i64 y.code, .int .i64 y.dst, .slice ca CL cc, .int .i64 y.n, .int .i64 y.pc, .int .i64 y.need, .slice fa FL fc]] V fun e w' => e = .returned (.bool false) ∧ Below V.heap.size V w') := fun V hV => by
            have q := sameX_dc (w := V) (InP.mv _ _ _ _ _ _ _ (unhide HPX) (Fr.of_below (S := fun _ => False) (bl_past (unhide HBW) hV)) (fun k hk d => ⟨fun e => e, d⟩)) (InP.mv _ _ _ _ _ _ _ hPy (Fr.of_below (S := fun _ => False) (bl_past (unhide HBW) hV)) (fun k hk d => ⟨fun e => e, d⟩)) (unhide HOX x (List.mem_of_getElem? (unhide HX))) (unhide HOX y (kepL_mem (List.mem_of_getElem? hy)))
            rw [Dc_false hne] at q
            unfold inV at q
            dsimp only at q
            rw [unhide hAL, unhide hEL, unhide hCL, unhide hFL] at q
            exact q
          have k0 : (0 : Int) ≤ (k : Int) := by omega
          have k1 : (k : Int) < (M : Int) := by omega
          clear hg hcg hne hy hPy hcy ek
          go_wp2_with fail
          clear vl v0 v1 v2 v3 v4 v5
          refine wp_region_held_drew (S := fun V => Below wr.heap.size wr V) (by kernel_rfl) (unhide HS0) (fun hHeld => ?_)
          clear hHeld
          refine wpAnyH_take (i := 0) (oi := _) (v := .int .i64 (k : Int)) rfl (by kernel_rfl) (by kernel_rfl) (by kernel_rfl) (fun _ _ _ h => h) (Or.inl ⟨by rfl, (by intro w' hSw; go_simp; first | done | rfl)⟩) (unhide HS0) ?_
          go_simp
          refine wpAnyH_take (i := 1) (oi := _) (v := .bool true) rfl (by kernel_rfl) (by kernel_rfl) (by kernel_rfl) (fun _ _ _ h => h) (Or.inl ⟨by rfl, (by intro w' hSw; go_simp; first | done | rfl)⟩) (unhide HS0) ?_
          go_simp
          refine wpAnyH_take (i := 2) (oi := _) (v := .bool true) rfl (by kernel_rfl) (by kernel_rfl) (by kernel_rfl) (fun _ _ _ h => h) (Or.inl ⟨by rfl, (by intro w' hSw; go_simp; first | done | rfl)⟩) (unhide HS0) ?_
          go_simp
          refine wpAnyH_take (i := 3) (oi := _) (v := .pointer (some ⟨w.heap.size, 1, none⟩)) rfl (by kernel_rfl) (by kernel_rfl) (by kernel_rfl) (fun _ _ _ h => h) (Or.inl ⟨by rfl, (by intro w' hSw; go_simp; first | done | rfl)⟩) (unhide HS0) ?_
          go_simp
          refine wpAnyH_take (i := 4) (oi := _) (v := .slice (some ⟨ib, io, none⟩) n ic) rfl (by kernel_rfl) (by kernel_rfl) (by kernel_rfl) (fun _ _ _ h => h) (Or.inl ⟨by rfl, (by intro w' hSw; obtain ⟨m0, m1, m2, m3⟩ := unhide HB w' hSw; go_simp; first | done | rfl)⟩) (unhide HS0) ?_
          go_simp
          refine wpAnyH_take (i := 5) (oi := _) (v := .int .i64 (i : Int)) rfl (by kernel_rfl) (by kernel_rfl) (by kernel_rfl) (fun _ _ _ h => h) (Or.inl ⟨by rfl, (by intro w' hSw; go_simp; first | done | rfl)⟩) (unhide HS0) ?_
          go_simp
          refine wpAnyH_take (i := 6) (oi := _) (v := .pointer (some ⟨ib, io + i * 8, none⟩)) rfl (by kernel_rfl) (by kernel_rfl) (by kernel_rfl) (fun _ _ _ h => h) (Or.inl ⟨by rfl, (by intro w' hSw; go_simp; first | done | rfl)⟩) (unhide HS0) ?_
          go_simp
          refine wpAnyH_take (i := 7) (oi := _) (v := .agg #[.int .i64 x.op, .int .i64 x.code, .int .i64 x.dst, .slice aa AL ac, .int .i64 x.n, .int .i64 x.pc, .int .i64 x.need, .slice ea EL ec]) rfl (by kernel_rfl) (by kernel_rfl) (by kernel_rfl) (fun _ _ _ h => h) (Or.inl ⟨by rfl, (by intro w' hSw; obtain ⟨q0, q1, q2, q3, q4, q5, q6, q7, q8⟩ := unhide HXC w' hSw; go_simp; first | done | rfl)⟩) (unhide HS0) ?_
          go_simp
          refine wpAnyH_take (i := 8) (oi := _) (v := .pointer (some ⟨w.heap.size + 1, 1, none⟩)) rfl (by kernel_rfl) (by kernel_rfl) (by kernel_rfl) (fun _ _ _ h => h) (Or.inl ⟨by rfl, (by intro w' hSw; go_simp; first | done | rfl)⟩) (unhide HS0) ?_
          go_simp
          refine wpAnyH_take (i := 9) (oi := _) (v := .slice (some ⟨kb, ko, none⟩) M kc) rfl (by kernel_rfl) (by kernel_rfl) (by kernel_rfl) (fun _ _ _ h => h) (Or.inl ⟨by rfl, (by intro w' hSw; obtain ⟨m0, m1, m2, m3⟩ := unhide HB w' hSw; go_simp; first | done | rfl)⟩) (unhide HS0) ?_
          go_simp
          refine wpAnyH_take (i := 10) (oi := _) (v := .int .i64 (k : Int)) rfl (by kernel_rfl) (by kernel_rfl) (by kernel_rfl) (fun _ _ _ h => h) (Or.inl ⟨by rfl, (by intro w' hSw; go_simp; first | done | rfl)⟩) (unhide HS0) ?_
          go_simp
          refine wpAnyH_take (i := 11) (oi := _) (v := .pointer (some ⟨kb, ko + k * 8, none⟩)) rfl (by kernel_rfl) (by kernel_rfl) (by kernel_rfl) (fun _ _ _ h => h) (Or.inl ⟨by rfl, (by intro w' hSw; go_simp; first | done | rfl)⟩) (unhide HS0) ?_
          go_simp
          refine wpAnyH_take (i := 12) (oi := _) (v := .agg #[.int .i64 y.op, .int .i64 y.code, .int .i64 y.dst, .slice ca CL cc, .int .i64 y.n, .int .i64 y.pc, .int .i64 y.need, .slice fa FL fc]) rfl (by kernel_rfl) (by kernel_rfl) (by kernel_rfl) (fun _ _ _ h => h) (Or.inl ⟨by rfl, (by intro w' hSw; obtain ⟨q0, q1, q2, q3, q4, q5, q6, q7, q8⟩ := unhide HYC w' hSw; go_simp; first | done | rfl)⟩) (unhide HS0) ?_
          go_simp
          refine wpAnyH_ready (rs := [13]) (by kernel_rfl) (by simp) ?_
          refine AllReadyH.cons (o := _) rfl (fun K hK => ?_) AllReadyH.nil
          go_simp
          refine (unhide HSX _ (unhide HS0)).mono ?_
          rintro e Y ⟨rfl, hY⟩
          have HY : Hid (Below wr.heap.size wr Y) := (unhide HS0).trans (hY.mono (unhide HS0).size)
          refine hK.out _ _ (unhide HY) (fun _ => ?_)
          clear hK K hY
          go_simp
          refine wpAnyH_take (i := 14) (oi := _) (v := .bool false) rfl (by kernel_rfl) (by kernel_rfl) (by kernel_rfl) (fun _ _ _ h => h) (Or.inl ⟨by rfl, (by intro w' hSw; go_simp; first | done | rfl)⟩) (unhide HY) ?_
          go_simp
          refine wpAnyH_done (by kernel_rfl) ?_ _
          obtain ⟨Z, hZ⟩ : ∃ Z, Hid (Y = Z) := ⟨_, hide rfl⟩
          have HZ : Hid (Below wr.heap.size wr Z) := by rw [← unhide hZ]; exact unhide HY
          rw [unhide hZ]
          clear hZ
          obtain ⟨m0, m1, m2, m3⟩ := unhide HB Z (unhide HZ)
          obtain ⟨q0, q1, q2, q3, q4, q5, q6, q7, q8⟩ := unhide HXC Z (unhide HZ)
          go_wp2_with fail
          clear m0 m1 m2 m3 q0 q1 q2 q3 q4 q5 q6 q7 q8
          refine (quietL_any (w := Z) (x := x) rfl).mono ?_
          rintro e Z2 ⟨rfl, hZ2⟩
          have HZ2 : Hid (Below wr.heap.size wr Z2) := (unhide HZ).trans (hZ2.mono (unhide HZ).size)
          rw [unhide HQ]
          have HT2 := hide ((unhide hT).on (unhide HZ2))
          obtain ⟨f0, ⟨fu, f1⟩, f2, f3⟩ := (unhide HT2).cell hin
          have HPUT := hide ((unhide HT2).put (unhide HX) (unhide HG))
          clear hZ2
          go_wp2_with fail
          go_roundg i
          case measure => omega
          case rel => exact ⟨i, _, ⟨rfl, by omega, unhide HK2⟩, by go_num, by go_num, HPUT⟩
      | false =>
        have HG := hide hg
        obtain ⟨hst, hsy⟩ := cntK_stay (unhide HX) hg
        obtain ⟨k, hk⟩ : ∃ k, Hid (cntK R u.ins i = k) := ⟨_, hide rfl⟩
        rw [unhide hk] at hst hsy
        obtain rfl : K = k + 1 := by rw [← (unhide hj).2.2]; exact hst
        have ek : ((k + 1 : Nat) : Int) - 1 = (k : Int) := by omega
        rw [ek]
        have hkM : k < M := by rw [← unhide hM]; exact (List.getElem?_eq_some_iff.1 hsy).1
        obtain ⟨y, hyx⟩ : ∃ y, Hid (x = y) := ⟨_, hide rfl⟩
        have hy : (kepL R u.ins)[k]? = some y := by rw [← unhide hyx]; exact hsy
        obtain ⟨kb, ko, ca, cc, fa, fc, e5, hkb, hPy, hc1, hc2, hf1, hf2, hcy⟩ := InsV.at8 (unhide HK) hy
        subst e5
        obtain ⟨CL, hCL⟩ : ∃ z, Hid (y.args.length = z) := ⟨_, hide rfl⟩
        obtain ⟨FL, hFL⟩ : ∃ z, Hid (y.ex.length = z) := ⟨_, hide rfl⟩
        rw [unhide hCL, unhide hFL] at hcy
        have HYC : Hid (∀ V, Below wr.heap.size wr V → kb < V.heap.size ∧ V.cell? ⟨kb, ko + k * 8, none⟩ = some (.int .i64 y.op) ∧ V.cell? ⟨kb, ko + k * 8 + 1, none⟩ = some (.int .i64 y.code) ∧ V.cell? ⟨kb, ko + k * 8 + 2, none⟩ = some (.int .i64 y.dst) ∧ V.cell? ⟨kb, ko + k * 8 + 3, none⟩ = some (.slice ca CL cc) ∧ V.cell? ⟨kb, ko + k * 8 + 4, none⟩ = some (.int .i64 y.n) ∧ V.cell? ⟨kb, ko + k * 8 + 5, none⟩ = some (.int .i64 y.pc) ∧ V.cell? ⟨kb, ko + k * 8 + 6, none⟩ = some (.int .i64 y.need) ∧ V.cell? ⟨kb, ko + k * 8 + 7, none⟩ = some (.slice fa FL fc)) := fun V hV => hcy V (bl_past (unhide HBW) hV)
        have HSX : Hid (∀ V, Below wr.heap.size wr V → Calls Tryd.prog 34 #[.agg #[.int .i64 x.op, .int .i64 x.code, .int .i64 x.dst, .slice aa AL ac, .int .i64 x.n, .int .i64 x.pc, .int .i64 x.need, .slice ea EL ec], .agg #[.int .i64 y.op, .int .i64 y.code, .int .i64 y.dst, .slice ca CL cc, .int .i64 y.n, .int .i64 y.pc, .int .i64 y.need, .slice fa FL fc]] V fun e w' => e = .returned (.bool true) ∧ Below V.heap.size V w') := fun V hV => by
          have q := sameX_dc (w := V) (InP.mv _ _ _ _ _ _ _ (unhide HPX) (Fr.of_below (S := fun _ => False) (bl_past (unhide HBW) hV)) (fun k hk d => ⟨fun e => e, d⟩)) (InP.mv _ _ _ _ _ _ _ hPy (Fr.of_below (S := fun _ => False) (bl_past (unhide HBW) hV)) (fun k hk d => ⟨fun e => e, d⟩)) (unhide HOX x (List.mem_of_getElem? (unhide HX))) (unhide HOX y (kepL_mem (List.mem_of_getElem? hy)))
          rw [Dc_true (unhide hyx)] at q
          unfold inV at q
          dsimp only at q
          rw [unhide hAL, unhide hEL, unhide hCL, unhide hFL] at q
          exact q
        have HTN : Hid (∀ V, Below wr.heap.size wr V → TkS w R u.ins #[.int .i64 u.pc, .slice (some ⟨ib, io, none⟩) n ic, .slice na NL nc] #[.int .i64 u.pc, .slice (some ⟨kb, ko, none⟩) M kc, .slice ma NL mc] n i V) := fun V hV => by
          have q := (unhide hT).on hV
          exact ⟨q.bw, q.h0, q.h1, by rw [← rowG_skip R (unhide HG)]; exact q.ro⟩
        have k0 : (0 : Int) ≤ (k : Int) := by omega
        have k1 : (k : Int) < (M : Int) := by omega
        clear hg hst hsy hy hPy hcy ek
        go_wp2_with fail
        clear vl v0 v1 v2 v3 v4 v5
        refine wp_region_held_drew (S := fun V => Below wr.heap.size wr V) (by kernel_rfl) (unhide HS0) (fun hHeld => ?_)
        clear hHeld
        refine wpAnyH_take (i := 0) (oi := _) (v := .int .i64 (k : Int)) rfl (by kernel_rfl) (by kernel_rfl) (by kernel_rfl) (fun _ _ _ h => h) (Or.inl ⟨by rfl, (by intro w' hSw; go_simp; first | done | rfl)⟩) (unhide HS0) ?_
        go_simp
        refine wpAnyH_take (i := 1) (oi := _) (v := .bool true) rfl (by kernel_rfl) (by kernel_rfl) (by kernel_rfl) (fun _ _ _ h => h) (Or.inl ⟨by rfl, (by intro w' hSw; go_simp; first | done | rfl)⟩) (unhide HS0) ?_
        go_simp
        refine wpAnyH_take (i := 2) (oi := _) (v := .bool true) rfl (by kernel_rfl) (by kernel_rfl) (by kernel_rfl) (fun _ _ _ h => h) (Or.inl ⟨by rfl, (by intro w' hSw; go_simp; first | done | rfl)⟩) (unhide HS0) ?_
        go_simp
        refine wpAnyH_take (i := 3) (oi := _) (v := .pointer (some ⟨w.heap.size, 1, none⟩)) rfl (by kernel_rfl) (by kernel_rfl) (by kernel_rfl) (fun _ _ _ h => h) (Or.inl ⟨by rfl, (by intro w' hSw; go_simp; first | done | rfl)⟩) (unhide HS0) ?_
        go_simp
        refine wpAnyH_take (i := 4) (oi := _) (v := .slice (some ⟨ib, io, none⟩) n ic) rfl (by kernel_rfl) (by kernel_rfl) (by kernel_rfl) (fun _ _ _ h => h) (Or.inl ⟨by rfl, (by intro w' hSw; obtain ⟨m0, m1, m2, m3⟩ := unhide HB w' hSw; go_simp; first | done | rfl)⟩) (unhide HS0) ?_
        go_simp
        refine wpAnyH_take (i := 5) (oi := _) (v := .int .i64 (i : Int)) rfl (by kernel_rfl) (by kernel_rfl) (by kernel_rfl) (fun _ _ _ h => h) (Or.inl ⟨by rfl, (by intro w' hSw; go_simp; first | done | rfl)⟩) (unhide HS0) ?_
        go_simp
        refine wpAnyH_take (i := 6) (oi := _) (v := .pointer (some ⟨ib, io + i * 8, none⟩)) rfl (by kernel_rfl) (by kernel_rfl) (by kernel_rfl) (fun _ _ _ h => h) (Or.inl ⟨by rfl, (by intro w' hSw; go_simp; first | done | rfl)⟩) (unhide HS0) ?_
        go_simp
        refine wpAnyH_take (i := 7) (oi := _) (v := .agg #[.int .i64 x.op, .int .i64 x.code, .int .i64 x.dst, .slice aa AL ac, .int .i64 x.n, .int .i64 x.pc, .int .i64 x.need, .slice ea EL ec]) rfl (by kernel_rfl) (by kernel_rfl) (by kernel_rfl) (fun _ _ _ h => h) (Or.inl ⟨by rfl, (by intro w' hSw; obtain ⟨q0, q1, q2, q3, q4, q5, q6, q7, q8⟩ := unhide HXC w' hSw; go_simp; first | done | rfl)⟩) (unhide HS0) ?_
        go_simp
        refine wpAnyH_take (i := 8) (oi := _) (v := .pointer (some ⟨w.heap.size + 1, 1, none⟩)) rfl (by kernel_rfl) (by kernel_rfl) (by kernel_rfl) (fun _ _ _ h => h) (Or.inl ⟨by rfl, (by intro w' hSw; go_simp; first | done | rfl)⟩) (unhide HS0) ?_
        go_simp
        refine wpAnyH_take (i := 9) (oi := _) (v := .slice (some ⟨kb, ko, none⟩) M kc) rfl (by kernel_rfl) (by kernel_rfl) (by kernel_rfl) (fun _ _ _ h => h) (Or.inl ⟨by rfl, (by intro w' hSw; obtain ⟨m0, m1, m2, m3⟩ := unhide HB w' hSw; go_simp; first | done | rfl)⟩) (unhide HS0) ?_
        go_simp
        refine wpAnyH_take (i := 10) (oi := _) (v := .int .i64 (k : Int)) rfl (by kernel_rfl) (by kernel_rfl) (by kernel_rfl) (fun _ _ _ h => h) (Or.inl ⟨by rfl, (by intro w' hSw; go_simp; first | done | rfl)⟩) (unhide HS0) ?_
        go_simp
        refine wpAnyH_take (i := 11) (oi := _) (v := .pointer (some ⟨kb, ko + k * 8, none⟩)) rfl (by kernel_rfl) (by kernel_rfl) (by kernel_rfl) (fun _ _ _ h => h) (Or.inl ⟨by rfl, (by intro w' hSw; go_simp; first | done | rfl)⟩) (unhide HS0) ?_
        go_simp
        refine wpAnyH_take (i := 12) (oi := _) (v := .agg #[.int .i64 y.op, .int .i64 y.code, .int .i64 y.dst, .slice ca CL cc, .int .i64 y.n, .int .i64 y.pc, .int .i64 y.need, .slice fa FL fc]) rfl (by kernel_rfl) (by kernel_rfl) (by kernel_rfl) (fun _ _ _ h => h) (Or.inl ⟨by rfl, (by intro w' hSw; obtain ⟨q0, q1, q2, q3, q4, q5, q6, q7, q8⟩ := unhide HYC w' hSw; go_simp; first | done | rfl)⟩) (unhide HS0) ?_
        go_simp
        refine wpAnyH_ready (rs := [13]) (by kernel_rfl) (by simp) ?_
        refine AllReadyH.cons (o := _) rfl (fun K hK => ?_) AllReadyH.nil
        go_simp
        refine (unhide HSX _ (unhide HS0)).mono ?_
        rintro e Y ⟨rfl, hY⟩
        have HY : Hid (Below wr.heap.size wr Y) := (unhide HS0).trans (hY.mono (unhide HS0).size)
        refine hK.out _ _ (unhide HY) (fun _ => ?_)
        clear hK K hY
        go_simp
        refine wpAnyH_take (i := 14) (oi := _) (v := .bool true) rfl (by kernel_rfl) (by kernel_rfl) (by kernel_rfl) (fun _ _ _ h => h) (Or.inl ⟨by rfl, (by intro w' hSw; go_simp; first | done | rfl)⟩) (unhide HY) ?_
        go_simp
        refine wpAnyH_done (by kernel_rfl) ?_ _
        have HT3 := hide (unhide HTN Y (unhide HY))
        go_wp2_with fail
        go_roundg i
        case measure => omega
        case rel => exact ⟨i, k, ⟨rfl, by omega, unhide hk⟩, by go_num, by go_num, HT3⟩
end Go.Proofs.YtpbdmbmafjkinaaDoor
