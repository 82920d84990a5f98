/-
  Points, and the steps of a block.
-/
import Derived.Test.YtpbdpejhjdoleaaAgL
namespace Go.Proofs.Ytpbdpejhjdoleaa
open Go.RowKit
set_option linter.unusedVariables false
set_option linter.unusedSimpArgs false
theorem blk8 (w : World) (t : TypeId) (v0 v1 v2 v3 v4 v5 v6 v7 : Value) {W : World} (h : Below (w.alloc (.cells #[v0, v1, v2, v3, v4, v5, v6, v7] t)).heap.size (w.alloc (.cells #[v0, v1, v2, v3, v4, v5, v6, v7] t)) W) :
    W.cell? ⟨w.heap.size, 0, none⟩ = some v0 ∧ W.cell? ⟨w.heap.size, 1, none⟩ = some v1 ∧ W.cell? ⟨w.heap.size, 2, none⟩ = some v2 ∧ W.cell? ⟨w.heap.size, 3, none⟩ = some v3 ∧ W.cell? ⟨w.heap.size, 4, none⟩ = some v4 ∧ W.cell? ⟨w.heap.size, 5, none⟩ = some v5 ∧ W.cell? ⟨w.heap.size, 6, none⟩ = some v6 ∧ W.cell? ⟨w.heap.size, 7, none⟩ = some v7 ∧ w.heap.size < W.heap.size := by
  obtain ⟨c1, c2, c3⟩ := blk_cells ((h.block w.heap.size (by simp)).trans (heap_alloc_new w _))
  exact ⟨c1 0, c1 1, c1 2, c1 3, c1 4, c1 5, c1 6, c1 7, c3⟩
def ptB (op : Int) : Bool := decide (op = 3 ∨ op = 4 ∨ op = 5 ∨ op = 6 ∨ op = 9)
set_option maxRecDepth 100000 in
theorem point_any (w : World) (op : Int) : Calls Try.prog 33 #[.int .i64 op] w fun e w' => e = .returned (.bool (ptB op)) ∧ w' = w := by
  by_cases h3 : op = 3
  · subst h3
    go_enter Try.func33, Try.ntmps33
    go_wp2_with fail
    go_ret
    exact ⟨rfl, rfl⟩
  have e3 : (op == 3) = false := by simp [h3]
  by_cases h4 : op = 4
  · subst h4
    go_enter Try.func33, Try.ntmps33
    go_wp2_with fail
    go_ret
    exact ⟨rfl, rfl⟩
  have e4 : (op == 4) = false := by simp [h4]
  by_cases h5 : op = 5
  · subst h5
    go_enter Try.func33, Try.ntmps33
    go_wp2_with fail
    go_ret
    exact ⟨rfl, rfl⟩
  have e5 : (op == 5) = false := by simp [h5]
  by_cases h6 : op = 6
  · subst h6
    go_enter Try.func33, Try.ntmps33
    go_wp2_with fail
    go_ret
    exact ⟨rfl, rfl⟩
  have e6 : (op == 6) = false := by simp [h6]
  by_cases h9 : op = 9
  · subst h9
    go_enter Try.func33, Try.ntmps33
    go_wp2_with fail
    go_ret
    exact ⟨rfl, rfl⟩
  have e9 : (op == 9) = false := by simp [h9]
  have hp : ptB op = false := by simp [ptB, h3, h4, h5, h6, h9]
  rw [hp]
  go_enter Try.func33, Try.ntmps33
  go_wp2_with fail
  go_ret
  exact ⟨rfl, rfl⟩
theorem InsV.at {D : Nat → Prop} {w : World} {l : List RIn} {v : Value} (h : InsV D w l v) {i : Nat} {x : RIn} (hx : l[i]? = some x) :
    ∃ b off cap aa ac ea ec, v = .slice (some ⟨b, off, none⟩) l.length cap ∧ b < w.heap.size ∧ D b ∧ OpV D w x.args (.slice aa x.args.length ac) ∧ x.args.length ≤ ac ∧ ac ≤ maxLen ∧ ShsV D w x.ex (.slice ea x.ex.length ec) ∧ x.ex.length ≤ ec ∧ ec ≤ maxLen ∧
      ∀ W : World, W.heap[b]? = w.heap[b]? → W.cell? ⟨b, off + i * 8, none⟩ = some (.int .i64 x.op) ∧ W.cell? ⟨b, off + i * 8 + 1, none⟩ = some (.int .i64 x.code) ∧ W.cell? ⟨b, off + i * 8 + 2, none⟩ = some (.int .i64 x.dst) ∧ W.cell? ⟨b, off + i * 8 + 3, none⟩ = some (.slice aa x.args.length ac) ∧ W.cell? ⟨b, off + i * 8 + 4, none⟩ = some (.int .i64 x.n) ∧ W.cell? ⟨b, off + i * 8 + 5, none⟩ = some (.int .i64 x.pc) ∧ W.cell? ⟨b, off + i * 8 + 6, none⟩ = some (.int .i64 x.need) ∧ W.cell? ⟨b, off + i * 8 + 7, none⟩ = some (.slice ea x.ex.length ec) := by
  obtain ⟨b, off, cap, r, e, hb, hD, ⟨h1, h2, h3, h4, h5, h6, h7, h8⟩, hc⟩ := NV.at zIn h hx
  obtain ⟨aa, ac, es, hs1, hs2⟩ := h7.1.shape
  obtain ⟨ea, ec, es2, hs3, hs4⟩ := NV.shape h8
  obtain ⟨r1, r2, r3, r4, r5, r6, r7, r8⟩ := r
  subst h1 h2 h3 h4 h5 h6 es es2
  refine ⟨b, off, cap, aa, ac, ea, ec, e, hb, hD, h7, hs1, hs2, h8, hs3, hs4, fun W hW => ?_⟩
  exact ⟨(World.cell?_of_block (a := ⟨b, off + i * 8, none⟩) hW).trans (hc 0 _ rfl), (World.cell?_of_block (a := ⟨b, off + i * 8 + 1, none⟩) hW).trans (hc 1 _ rfl), (World.cell?_of_block (a := ⟨b, off + i * 8 + 2, none⟩) hW).trans (hc 2 _ rfl), (World.cell?_of_block (a := ⟨b, off + i * 8 + 3, none⟩) hW).trans (hc 3 _ rfl), (World.cell?_of_block (a := ⟨b, off + i * 8 + 4, none⟩) hW).trans (hc 4 _ rfl), (World.cell?_of_block (a := ⟨b, off + i * 8 + 5, none⟩) hW).trans (hc 5 _ rfl), (World.cell?_of_block (a := ⟨b, off + i * 8 + 6, none⟩) hW).trans (hc 6 _ rfl), (World.cell?_of_block (a := ⟨b, off + i * 8 + 7, none⟩) hW).trans (hc 7 _ rfl)⟩
/-- The sum of the needs of points. -/
def stF : List RIn → Int → Int
  | [], n => n
  | x :: r, n => stF r (if ptB x.op then wrap64 (n + x.need) else n)
theorem stF_push (l : List RIn) (x : RIn) (n : Int) : stF (l ++ [x]) n = if ptB x.op then wrap64 (stF l n + x.need) else stF l n := by
  induction l generalizing n with
  | nil => rfl
  | cons y r ih => exact ih _
theorem stF_take {l : List RIn} {i : Nat} {x : RIn} (h : l[i]? = some x) : stF (l.take (i + 1)) 0 = if ptB x.op then wrap64 (stF (l.take i) 0 + x.need) else stF (l.take i) 0 := by
  rw [take_push h, stF_push]
set_option maxRecDepth 100000 in
set_option maxHeartbeats 6400000 in
theorem steps_any {w : World} {D : Nat → Prop} {b : Bk} {r : BkR} (h : BkP D w b r) : Calls Try.prog 17 #[bkV r] w fun e w' => e = .returned (.int .i64 (stF b.ins 0)) ∧ Below w.heap.size w w' := by
  obtain ⟨rp, iv, nv⟩ := r
  obtain ⟨hp1, hI, hNx⟩ := h
  dsimp only at hp1 hI hNx
  subst hp1
  obtain ⟨ia, ic, rfl, hi1, hi2⟩ := NV.shape hI
  obtain ⟨na, nc, rfl, hn1, hn2⟩ := hNx.1.shape
  have HI := hide hI
  unfold maxLen at hi2 hn2
  clear hI hNx
  obtain ⟨L, hL⟩ : ∃ L, Hid (b.ins.length = L) := ⟨_, hide rfl⟩
  rw [unhide hL] at hi1 HI ⊢
  have HX := hide (box1n w (.cells #[.int .i64 b.pc, .slice ia L ic, .slice na b.nx.length nc] 43))
  unfold bkV
  go_enter Try.func17, Try.ntmps17
  go_wp2_with fail
  go_loopg [3, 9] L (fun gg t3 t9 wr => ∃ (i : Nat), Hid (i + gg = L) ∧ t3 = .int .i64 (stF (b.ins.take i) 0) ∧ t9 = .int .i64 (i : Int) ∧ Hid (Below w.heap.size w wr))
  case atStart => exact ⟨0, by unfold Hid; omega, rfl, rfl, HX⟩
  case round =>
    clear HX
    obtain ⟨i, hi, rfl, rfl, hw⟩ := hrel
    by_cases hlt : i < L
    · obtain ⟨x, hx⟩ : ∃ x, b.ins[i]? = some x := ⟨_, List.getElem?_eq_getElem (by rw [unhide hL]; exact hlt)⟩
      have HI' := HI
      rw [← unhide hL] at HI'
      obtain ⟨b1, f1, k1, aa, ac, ea, ec, e1, hb1, _, p1, p2, p3, p4, p5, p6, hxc⟩ := (unhide HI').at hx
      rw [unhide hL] at e1
      cases e1
      obtain ⟨x0, x1, x2, x3, x4, x5, x6, x7⟩ := hxc wr ((unhide hw).block b1 hb1)
      have hb1w := Nat.lt_of_lt_of_le hb1 (unhide hw).size
      have i0 : (0 : Int) ≤ (i : Int) := by omega
      have i1 : (i : Int) < (L : Int) := by omega
      have hst := hide (stF_take hx)
      obtain ⟨st, hs⟩ : ∃ st, Hid (stF (b.ins.take i) 0 = st) := ⟨_, hide rfl⟩
      rw [unhide hs] at hst ⊢
      have HWX := hide (bl_past (unhide hw) (box1n wr (.cells #[.int .i64 x.op, .int .i64 x.code, .int .i64 x.dst, .slice aa x.args.length ac, .int .i64 x.n, .int .i64 x.pc, .int .i64 x.need, .slice ea x.ex.length ec] 50)))
      obtain ⟨g0, g1, g2, g3, g4, g5, g6, g7, g8⟩ := blk8 wr 50 (.int .i64 x.op) (.int .i64 x.code) (.int .i64 x.dst) (.slice aa x.args.length ac) (.int .i64 x.n) (.int .i64 x.pc) (.int .i64 x.need) (.slice ea x.ex.length ec) (Below.refl _ _)
      obtain ⟨Wx, hWx⟩ : ∃ Wx, Hid (wr.alloc (.cells #[.int .i64 x.op, .int .i64 x.code, .int .i64 x.dst, .slice aa x.args.length ac, .int .i64 x.n, .int .i64 x.pc, .int .i64 x.need, .slice ea x.ex.length ec] 50) = Wx) := ⟨_, hide rfl⟩
      rw [unhide hWx] at HWX g0 g6 g8
      have hWx' := unhide hWx
      clear HI' hx hxc p1 p4 g1 g2 g3 g4 g5 g7
      cases hpt : ptB x.op with
      | true =>
        rw [hpt] at hst
        have hst' := unhide hst
        simp only [if_true] at hst'
        have HC := hide (point_any Wx x.op)
        rw [hpt] at HC
        go_wp2_with fail
        refine (unhide HC).mono ?_
        rintro e w1 ⟨rfl, hw1⟩
        subst hw1
        go_wp2_with fail
        go_roundg (gk - 1)
        case measure => have := unhide hi; omega
        case rel => exact ⟨i + 1, by have := unhide hi; unfold Hid; omega, by rw [hst'], by go_num, HWX⟩
      | false =>
        rw [hpt] at hst
        have hst' := unhide hst
        simp only [Bool.false_eq_true, if_false] at hst'
        have HC := hide (point_any Wx x.op)
        rw [hpt] at HC
        go_wp2_with fail
        refine (unhide HC).mono ?_
        rintro e w1 ⟨rfl, hw1⟩
        subst hw1
        go_wp2_with fail
        go_roundg (gk - 1)
        case measure => have := unhide hi; omega
        case rel => exact ⟨i + 1, by have := unhide hi; unfold Hid; omega, by rw [hst'], by go_num, HWX⟩
    · have hiL : i = L := by have := unhide hi; omega
      subst hiL
      rw [List.take_of_length_le (by rw [unhide hL]; exact Nat.le_refl _)]
      go_wp2_with fail
      go_ret
      exact ⟨rfl, unhide hw⟩
end Go.Proofs.Ytpbdpejhjdoleaa
