/-
  live.After.
-/
import Derived.Test.YtpbdmbmafjkinaaDoorTz
import Derived.Test.YtpbdmbmafjkinaaDoorWm0
import Derived.Test.YtpbdmbmafjkinaaDoorFd
import Derived.Test.YtpbdmbmafjkinaaDoorRu
namespace Go.Proofs.YtpbdmbmafjkinaaDoor
open Go.RowKit
set_option linter.unusedVariables false
set_option linter.unusedSimpArgs false
structure NR (X1 : World) (v : Value) (rl : List Nat) (X : World) : Prop where
  bel : Below X1.heap.size X1 X
  row : Ro X 1 v rl.length (flt enN rl)
  own : ∀ k, v.ownBlock = some k → X1.heap.size ≤ k
theorem NR.start (X : World) : NR X (.slice none 0 0) [] X := ⟨Below.refl _ _, Ro.nil _ 1, fun k hk => by cases hk⟩
theorem NR.on {X1 X Y : World} {v : Value} {rl : List Nat} (h : NR X1 v rl X) (f : Below X.heap.size X Y) : NR X1 v rl Y :=
  ⟨h.bel.trans (f.mono h.bel.size), h.row.fr (Fr.of_below (S := fun _ => False) f) (fun _ _ e => e), h.own⟩
theorem NR.push {X1 X : World} {n : Nat} {va : Option Addr} {vc : Nat} {rl : List Nat} (h : NR X1 (.slice va n vc) rl X) (hn : n = rl.length) (hl : rl.length ≤ 8796093022207) (r : Nat) : ∃ ya yc w1, (Builtin.append_ #[25, 25] 25 #[.slice va n vc, .slice (some ⟨X.heap.size, 0, none⟩) 1 1]).run Tryd.prog (X.alloc (.cells #[.int .i64 (r : Int)] 3)) = .ok (.slice ya (n + 1) yc) w1 ∧ NR X1 (.slice ya (n + 1) yc) (rl ++ [r]) w1 := by
  subst hn
  obtain ⟨i4, hi4, hz4, hs4, hb4⟩ := info_parts infIC2
  have hB := box1n X (.cells #[.int .i64 (r : Int)] 3)
  obtain ⟨x', w1, hrun, r1, r2, r3⟩ := Ro.app (P := Tryd.prog) 25 25 3 i4 _ 1 8 Tryd.underlying25 hi4 hz4 hs4 hb4 rfl (by decide) (h.row.fr (Fr.of_below (S := fun _ => False) hB) (fun _ _ e => e)) ⟨X.heap.size, 0, none⟩ 1 1 (enN r) rfl (new_cells X _ _) (by simp [enN, Value.oneCell']) (by omega) (by unfold maxLen; omega) (by omega)
  obtain ⟨ya, yc, rfl, _, _⟩ := r1.shape
  have f1 : Fr (fun k => (Value.slice va rl.length vc).ownBlock = some k) (X.alloc (.cells #[.int .i64 (r : Int)] 3)) w1 := (Fr.refl _ _).grown r2 (fun k e => .inr e)
  have hs := h.bel.size
  refine ⟨ya, yc, w1, hrun, ⟨(h.bel.trans (hB.mono hs)).trans (f1.below (by simp; omega) (fun k hk e => by have := h.own k e; omega)), by rw [List.length_append, flt_append, flt_one]; exact r1, fun k hk => ?_⟩⟩
  rcases r3 with q | q
  · exact h.own k (by rw [← q]; exact hk)
  · rw [q] at hk; cases hk; simp; omega
/-- A row of numbers is answered. -/
def NP (w : World) (l : List Nat) (e : Ending) (w' : World) : Prop := ∃ va vc, e = .returned (.slice va l.length vc) ∧ NR w (.slice va l.length vc) l w'

set_option linter.unusedVariables false
set_option linter.unusedSimpArgs false
def regsOf (S : Rset) : List Nat := (List.range 512).filter S
theorem regsOf_len (S : Rset) : (regsOf S).length ≤ 512 := Nat.le_trans (List.length_filter_le _ _) (by simp)
def rowK (A : Wd) : Nat → List Nat
  | 0 => []
  | k + 1 => rowK A k ++ (bitsOf (A k)).map (fun i => k * 64 + i)
theorem bitsOf_len (a : Nat) : (bitsOf a).length ≤ 64 := Nat.le_trans (List.length_filter_le _ _) (by simp)
theorem rowK_len (A : Wd) : ∀ k, (rowK A k).length ≤ 64 * k
  | 0 => by simp [rowK]
  | k + 1 => by
    have h1 := rowK_len A k
    have h2 := bitsOf_len (A k)
    rw [rowK, List.length_append, List.length_map]
    omega
theorem rowK_filter (A : Wd) : ∀ k, rowK A k = (List.range (64 * k)).filter (fun r => (A (r / 64)).testBit (r % 64))
  | 0 => by simp [rowK]
  | k + 1 => by
    rw [rowK, rowK_filter A k, show 64 * (k + 1) = 64 * k + 64 by omega, List.range_add, List.filter_append, List.filter_map]
    congr 1
    unfold bitsOf
    have e : (fun i => k * 64 + i) = (fun i => 64 * k + i) := by funext i; omega
    rw [e]
    congr 1
    refine List.filter_congr (fun x hx => ?_)
    have hx2 : x < 64 := List.mem_range.1 hx
    show (A k).testBit x = (A ((64 * k + x) / 64)).testBit ((64 * k + x) % 64)
    rw [show (64 * k + x) / 64 = k by omega, show (64 * k + x) % 64 = x by omega]
theorem regsOf_row (A : Wd) : regsOf (sS A) = rowK A 8 := by
  rw [rowK_filter]
  unfold regsOf
  refine List.filter_congr (fun x hx => ?_)
  have hx2 : x < 512 := List.mem_range.1 hx
  simp [sS, hx2]
/-- While one word is gone through. -/
def LJ (w : World) (A : Wd) (k a n : Nat) (v : Value) (l : List Nat) (X : World) : Prop := n = l.length ∧ a < 18446744073709551616 ∧ l ++ (bitsOf a).map (fun i => k * 64 + i) = rowK A (k + 1) ∧ NR w v l X
set_option maxRecDepth 100000 in
set_option maxHeartbeats 3200000 in
theorem list_any {w : World} {b : Nat} {A : Wd} (hA : OkW A) (hb : w.heap[b]? = some (.cells (wdA A) 62)) (hT : TT w) : Calls Tryd.prog 25 #[.pointer (some ⟨b, 0, none⟩)] w (NP w (regsOf (sS A))) := by
  rw [regsOf_row]
  have HC : Hid (∀ X, Below w.heap.size w X → b < X.heap.size ∧ TT X ∧ ∀ k, k < 8 → X.cell? ⟨b, k, none⟩ = some (.int .u64 (A k : Int))) := fun X hX => by
    have hbl := (Array.getElem?_eq_some_iff.1 hb).1
    have q := (hX.block b hbl).trans hb
    exact ⟨(Array.getElem?_eq_some_iff.1 q).1, hT.below hT.1 hX, fun k hk => by rw [(blk_cells q).1 k]; exact wd_at hk⟩
  have HA := hide hA
  have HN0 : Hid (0 = (rowK A 0).length ∧ NR w (.slice none 0 0) (rowK A 0) w) := ⟨rfl, NR.start w⟩
  clear hb hT hA
  go_enter Tryd.func25, Tryd.ntmps25
  go_wp2_with fail
  go_loopg [7, 3] 8 (fun gg t7 t3 wr => ∃ (k : Nat) (la : Option Addr) (ln lc : Nat), Hid (k + gg = 8) ∧ t7 = .int .i64 (k : Int) ∧ t3 = .slice la ln lc ∧ Hid (ln = (rowK A k).length ∧ NR w (.slice la ln lc) (rowK A k) wr))
  case atStart => exact ⟨0, none, 0, 0, by unfold Hid; omega, rfl, rfl, HN0⟩
  case round =>
    clear HN0
    obtain ⟨k, la, ln, lc, hk, rfl, rfl, hG⟩ := hrel
    by_cases hlt : k < 8
    · have k0 : (0 : Int) ≤ (k : Int) := by omega
      have k1 : (k : Int) < 8 := by omega
      obtain ⟨bl, -, hc⟩ := unhide HC wr (unhide hG).2.bel
      have c0 := hc k hlt
      obtain ⟨a, ha⟩ : ∃ a, Hid (A k = a) := ⟨_, hide rfl⟩
      rw [unhide ha] at c0
      have HJ0 : Hid (LJ w A k a ln (.slice la ln lc) (rowK A k) wr) := ⟨(unhide hG).1, by rw [← unhide ha]; exact unhide HA k, by rw [← unhide ha]; rfl, (unhide hG).2⟩
      clear hG hc ha
      go_wp2_with fail
      go_quiet (first | fail)
      go_wp2_with fail
      obtain ⟨V, hV⟩ : ∃ V, Hid (wr.drewN nq = V) := ⟨_, hide rfl⟩
      have HJ1 : Hid (LJ w A k a ln (.slice la ln lc) (rowK A k) V) := by
        rw [← unhide hV]
        exact ⟨(unhide HJ0).1, (unhide HJ0).2.1, (unhide HJ0).2.2.1, (unhide HJ0).2.2.2.on (bl_drewN wr nq)⟩
      rw [unhide hV]
      clear hV HJ0 c0 bl
      obtain ⟨l0, hl0⟩ : ∃ l0, Hid (rowK A k = l0) := ⟨_, hide rfl⟩
      rw [unhide hl0] at HJ1
      clear hl0
      go_loopg [5, 3] (bitsOf a).length (fun gg t5 t3 wr => ∃ (a2 : Nat) (la : Option Addr) (ln lc : Nat) (l : List Nat), Hid ((bitsOf a2).length = gg) ∧ t5 = .int .u64 (a2 : Int) ∧ t3 = .slice la ln lc ∧ Hid (LJ w A k a2 ln (.slice la ln lc) l wr))
      case atStart => exact ⟨a, la, ln, lc, l0, rfl, rfl, rfl, HJ1⟩
      case round =>
        clear HJ1
        obtain ⟨a2, la, ln, lc, l, hm, rfl, rfl, hJ⟩ := hrel
        by_cases hz : a2 = 0
        · subst hz
          have HG2 : Hid (ln = (rowK A (k + 1)).length ∧ NR w (.slice la ln lc) (rowK A (k + 1)) wr) := by
            obtain ⟨q1, q2, q3, q4⟩ := unhide hJ
            rw [bitsOf_zero, List.map_nil, List.append_nil] at q3
            rw [← q3]
            exact ⟨q1, q4⟩
          clear hJ hm
          go_wp2_with fail
          go_roundg (8 - (k + 1))
          case measure => have := unhide hk; omega
          case rel => exact ⟨k + 1, la, ln, lc, by have := unhide hk; unfold Hid; omega, by go_num, rfl, HG2⟩
        · obtain ⟨q1, q2, q3, q4⟩ := unhide hJ
          obtain ⟨t, t1, t2⟩ := exLow hz
          have ht : t < 64 := by
            refine Classical.byContradiction (fun q => ?_)
            have : a2.testBit t = false := Nat.testBit_lt_two_pow (Nat.lt_of_lt_of_le q2 (Nat.pow_le_pow_right (n := 2) (i := 64) (by omega) (by omega)))
            rw [this] at t1; cases t1
          have hlow := bitsOf_low ht t1 t2
          obtain ⟨-, hTT, -⟩ := unhide HC wr q4.bel
          obtain ⟨R, hR⟩ : ∃ R, Hid (k * 64 + t = R) := ⟨_, hide rfl⟩
          have r0 : (k : Int) * 64 + (t : Int) = (R : Int) := by have := unhide hR; omega
          have z0 : ¬ (a2 : Int) = 0 := by omega
          obtain ⟨B, hB⟩ : ∃ B, Hid (a2 - 1 = B) := ⟨_, hide rfl⟩
          have b0 : (a2 : Int) - 1 = (B : Int) := by have := unhide hB; omega
          obtain ⟨C, hC⟩ : ∃ C, Hid (a2 &&& (a2 - 1) = C) := ⟨_, hide rfl⟩
          have hBl := wrapN (n := B) (by have := unhide hB; omega)
          have b1 := bitsAnd (a := a2) (b := a2 - 1) q2 (by omega)
          rw [unhide hC, unhide hB, ← hBl] at b1
          have HB1 := hide b1
          clear b1 hBl
          rw [unhide hC] at hlow
          have hCl : C < 18446744073709551616 := by rw [← unhide hC]; exact Nat.lt_of_le_of_lt Nat.and_le_left q2
          have hgk : gk = (bitsOf C).length + 1 := by rw [← unhide hm, hlow]; rfl
          have hll : l.length ≤ 512 := by
            have e := congrArg List.length q3
            rw [List.length_append] at e
            have := rowK_len A (k + 1)
            omega
          have HTZ := hide (fun V (hV : TT V) => tz_any (w := V) hV q2 t1 t2)
          have HLO : Hid (l ++ [R] ++ (bitsOf C).map (fun i => k * 64 + i) = rowK A (k + 1)) := by
            rw [← q3, hlow, List.map_cons, unhide hR, List.append_assoc]
            rfl
          have HNR := hide q4
          have HQ1 := hide q1
          have HTT := hide hTT
          have HGK := hide hgk
          clear hJ hm q1 q2 q3 q4 t1 t2 hlow hTT hB hC hgk hR
          go_wp2_with fail
          refine (unhide HTZ _ (unhide HTT)).mono ?_
          rintro e w1 ⟨rfl, m, hw1⟩
          have hb1 : Below wr.heap.size wr w1 := by rw [hw1]; exact bl_drewN wr m
          obtain ⟨ya, yc, w2, a1, a2'⟩ := ((unhide HNR).on hb1).push (unhide HQ1) (by omega) R
          have HRUN := hide a1
          have HJ2 : Hid (LJ w A k C (ln + 1) (.slice ya (ln + 1) yc) (l ++ [R]) w2) := ⟨by rw [List.length_append, unhide HQ1]; rfl, hCl, unhide HLO, a2'⟩
          have hlL : ln ≤ 512 := by rw [unhide HQ1]; exact hll
          clear hw1 hb1 a1 a2'
          go_wp2_with (first | (at_builtin; refine wpList_appRunC rfl _ _ rfl rfl rfl (unhide HRUN) ?_))
          go_roundg (gk - 1)
          case measure => have := unhide HGK; omega
          case rel => exact ⟨C, ya, _, yc, _, by have := unhide HGK; unfold Hid; omega, congrArg (Value.int .u64) (unhide HB1), rfl, HJ2⟩
    · have k1 : ¬ (k : Int) < 8 := by omega
      have hk8 : k = 8 := by have := unhide hk; omega
      subst hk8
      have HG := hide (unhide hG)
      clear hG
      go_wp2_with fail
      go_ret
      have q := unhide HG
      obtain ⟨q1, q2⟩ := q
      subst q1
      exact ⟨_, _, rfl, q2⟩

set_option linter.unusedVariables false
set_option linter.unusedSimpArgs false
/-- The registers wanted behind instruction i of block b. -/
noncomputable def aft (bl : List Bk) (b i : Int) : List Nat := match bl[b.toNat]? with
  | some u => if 0 ≤ b ∧ 0 ≤ i ∧ i < (u.ins.length : Int) then regsOf (backL (wS bl b.toNat) (u.ins.drop (i.toNat + 1))) else []
  | none => []
theorem aft_neg (bl : List Bk) {b : Int} (i : Int) (h : b < 0) : aft bl b i = [] := by
  unfold aft
  split
  · rw [if_neg (by omega)]
  · rfl
theorem aft_out (bl : List Bk) {b : Int} (i : Int) (h : (bl.length : Int) ≤ b) : aft bl b i = [] := by
  unfold aft
  rw [List.getElem?_eq_none (by omega)]
theorem aft_no {bl : List Bk} {b : Nat} {i : Int} {u : Bk} (hu : bl[b]? = some u) (h : i < 0 ∨ (u.ins.length : Int) ≤ i) : aft bl (b : Int) i = [] := by
  unfold aft
  rw [show ((b : Int)).toNat = b by simp, hu]
  simp only
  rw [if_neg (by omega)]
theorem aft_yes {bl : List Bk} {b i : Nat} {u : Bk} (hu : bl[b]? = some u) (h : i < u.ins.length) : aft bl (b : Int) (i : Int) = regsOf (backL (wS bl b) (u.ins.drop (i + 1))) := by
  unfold aft
  rw [show ((b : Int)).toNat = b by simp, show ((i : Int)).toNat = i by simp, hu]
  simp only
  rw [if_pos (by omega)]
theorem aft_len (bl : List Bk) (b i : Int) : (aft bl b i).length ≤ 512 := by
  unfold aft
  split
  · split
    · exact regsOf_len _
    · simp
  · simp
theorem NR.out {w X1 X : World} {v : Value} {l : List Nat} (h : NR X1 v l X) (hb : Below w.heap.size w X1) : NR w v l X :=
  ⟨hb.trans (h.bel.mono hb.size), h.row, fun k hk => Nat.le_trans hb.size (h.own k hk)⟩
theorem NP.nil {w X : World} (hb : Below w.heap.size w X) : NP w [] (.returned (.slice none 0 0)) X := ⟨none, 0, rfl, (NR.start w).on hb⟩
theorem filt_yes {S : Rset} {r : Nat} (h : S r = true) : (List.range (r + 1)).filter S = (List.range r).filter S ++ [r] := by
  rw [List.range_succ, List.filter_append]; simp [h]
theorem filt_no {S : Rset} {r : Nat} (h : S r = false) : (List.range (r + 1)).filter S = (List.range r).filter S := by
  rw [List.range_succ, List.filter_append]; simp [h]
set_option maxRecDepth 100000 in
set_option maxHeartbeats 6400000 in
theorem rafter_any {w : World} {D0 : Nat → Prop} {fn regs : Int} {bl : List Bk} {v : Value} (h : BksV D0 w bl v) (hN : bl.length ≤ 1048576) (hO : ∀ u ∈ bl, OkL u) (b i : Int) :
    Calls Tryd.prog 7 #[.agg #[.int .i64 fn, .int .i64 regs, v], .int .i64 b, .int .i64 i] w (NP w (aft bl b i)) := by
  obtain ⟨va, vc, rfl, hv1, hv2⟩ := NV.shape h
  obtain ⟨N, hNN⟩ : ∃ z, Hid (bl.length = z) := ⟨_, hide rfl⟩
  obtain ⟨W, hW⟩ : ∃ W, Hid (w.alloc (.cells #[.int .i64 fn, .int .i64 regs, .slice va N vc] 24) = W) := ⟨_, hide rfl⟩
  have HW : Hid (Below w.heap.size w W) := by rw [← unhide hW]; exact box1n w _
  have hn := heap_alloc_new w (.cells #[.int .i64 fn, .int .i64 regs, .slice va N vc] 24)
  rw [unhide hW] at hn
  have c0 := (blk_cells hn).1 0
  have c1 := (blk_cells hn).1 1
  have c2 := (blk_cells hn).1 2
  have cl := (blk_cells hn).2.2
  simp at c0 c1 c2
  have hW' := unhide hW
  unfold maxLen at hv2
  by_cases hb0 : b < 0
  · rw [aft_neg bl i hb0]
    rw [unhide hNN] at hv1 ⊢
    clear hW
    go_enter Tryd.func7, Tryd.ntmps7
    go_wp2_with fail
    go_ret
    exact NP.nil (unhide HW)
  obtain ⟨b, rfl⟩ : ∃ n : Nat, b = (n : Int) := ⟨b.toNat, by omega⟩
  by_cases hbN : N ≤ b
  · rw [aft_out bl i (by rw [unhide hNN]; omega)]
    have b1 : (N : Int) ≤ (b : Int) := by omega
    rw [unhide hNN] at hv1 ⊢
    clear hW
    go_enter Tryd.func7, Tryd.ntmps7
    go_wp2_with fail
    go_ret
    exact NP.nil (unhide HW)
  obtain ⟨u, hu⟩ : ∃ u, bl[b]? = some u := ⟨_, List.getElem?_eq_getElem (by rw [unhide hNN]; omega)⟩
  have b1 : ¬ (N : Int) ≤ (b : Int) := by omega
  have b2 : (b : Int) < (N : Int) := by omega
  by_cases hi0 : i < 0
  · rw [aft_no hu (.inl hi0)]
    rw [unhide hNN] at hv1 ⊢
    clear hW hu
    go_enter Tryd.func7, Tryd.ntmps7
    go_wp2_with fail
    go_ret
    exact NP.nil (unhide HW)
  obtain ⟨i, rfl⟩ : ∃ n : Nat, i = (n : Int) := ⟨i.toNat, by omega⟩
  obtain ⟨vb, vo, ia, ic, na, nc, ea, hvb, hIns, _, hic, _, hicl, _, hcc⟩ := h.blk hu
  subst ea
  obtain ⟨n, hnn⟩ : ∃ z, Hid (u.ins.length = z) := ⟨_, hide rfl⟩
  rw [unhide hnn] at hcc hicl
  unfold maxLen at hic
  obtain ⟨t0, t1, t2, t3⟩ := hcc W (unhide HW)
  by_cases hin : n ≤ i
  · rw [aft_no hu (.inr (by rw [unhide hnn]; omega))]
    have j1 : (n : Int) ≤ (i : Int) := by omega
    rw [unhide hNN] at hv1 ⊢
    clear hW hu hcc
    go_enter Tryd.func7, Tryd.ntmps7
    go_wp2_with fail
    go_ret
    exact NP.nil (unhide HW)
  rw [aft_yes hu (by rw [unhide hnn]; omega)]
  have j1 : ¬ (n : Int) ≤ (i : Int) := by omega
  have HBM := BksV.mv D0 D0 (fun _ => False) w W bl _ h (Fr.of_below (unhide HW)) (fun k hk d => ⟨fun e => e, d⟩)
  have HFD := hide (find_any (w := W) (fn := fn) (regs := regs) HBM hN hO)
  have HN := hide hN
  obtain ⟨S, hS⟩ : ∃ S, Hid (backL (wS bl b) (u.ins.drop (i + 1)) = S) := ⟨_, hide rfl⟩
  rw [unhide hS]
  have HU := hide hu
  rw [unhide hNN] at hv1 HFD ⊢
  clear hW hcc HBM h hN hO hIns hu
  go_enter Tryd.func7, Tryd.ntmps7
  go_wp2_with fail
  refine (unhide HFD).mono ?_
  rintro e X1 ⟨tv, uss, ts, rfl, hB1, hT, hs, htab⟩
  obtain ⟨i1, hi1⟩ : ∃ z : Nat, Hid (i + 1 = z) := ⟨_, hide rfl⟩
  obtain ⟨us, M1, hus, hM1, hTM1, hul⟩ := hs.at (unhide HU) (i := i1) (by rw [unhide hnn]; have := unhide hi1; omega)
  obtain ⟨tb, tof, tc, ra, ro, rc, g1, go1, gc1, et, x1, x2, x3, x4, x5, x6, _, _⟩ := hT.read hus hM1
  rw [hs.len, unhide hNN] at et
  rw [hul, unhide hnn] at x2
  subst et
  have hMS : M1 = S := by rw [← hTM1, htab b u (unhide HU) i1 (by rw [unhide hnn]; have := unhide hi1; omega), ← unhide hi1, unhide hS]
  subst hMS
  have HX : Hid (Below w.heap.size w X1) := (unhide HW).trans (hB1.mono (unhide HW).size)
  have HR : Hid (∀ V, Below X1.heap.size X1 V → V.cell? ⟨tb, tof + b, none⟩ = some (.slice (some ⟨ra, ro, none⟩) (n + 1) rc) ∧ tb < V.heap.size ∧ V.cell? ⟨ra, ro + i1, none⟩ = some (.slice (some ⟨g1, go1, none⟩) 512 gc1) ∧ ra < V.heap.size ∧ g1 < V.heap.size ∧ ∀ r, r < 512 → V.cell? ⟨g1, go1 + r, none⟩ = some (.bool (M1 r))) := fun V hV => by
    refine ⟨(hV.cell (p := ⟨tb, tof + b, none⟩) x1).trans x2, Nat.lt_of_lt_of_le x1 hV.size, (hV.cell (p := ⟨ra, ro + i1, none⟩) x3).trans x4, Nat.lt_of_lt_of_le x3 hV.size, Nat.lt_of_lt_of_le x5 hV.size, fun r hr => ?_⟩
    have q : BS V M1 (.slice (some ⟨g1, go1, none⟩) 512 gc1) := Ro.fr x6 (Fr.of_below (S := fun _ => False) hV) (fun _ _ e => e)
    obtain ⟨g', go', gc', e', _, hc'⟩ := q.read
    cases e'
    exact (hc' r hr).1
  have HN0 : Hid (0 = ((List.range 0).filter M1).length ∧ NR X1 (.slice none 0 0) ((List.range 0).filter M1) X1) := ⟨rfl, NR.start X1⟩
  clear c0 c1 c2 cl hW' t0 t1 t2 t3 HFD hB1 hT hs htab hus hM1 hTM1 hul x1 x2 x3 x4 x5 x6 hS
  have ei1 : (i : Int) + 1 = (i1 : Int) := by have := unhide hi1; omega
  have wi1 : IntKind.i64.wrap (i1 : Int) = (i1 : Int) := by go_arith
  have j2 : (0 : Int) ≤ (i1 : Int) := by omega
  have j3 : (i1 : Int) < (n : Int) + 1 := by omega
  go_wp2_with fail
  go_loopg [9, 8] 512 (fun gg t9 t8 wr => ∃ (r : Nat) (la : Option Addr) (ln lc : Nat), Hid (r + gg = 512) ∧ t9 = .int .i64 (r : Int) ∧ t8 = .slice la ln lc ∧ Hid (ln = ((List.range r).filter M1).length ∧ NR X1 (.slice la ln lc) ((List.range r).filter M1) wr))
  case atStart => exact ⟨0, none, 0, 0, by unfold Hid; omega, rfl, rfl, HN0⟩
  case round =>
    clear HN0
    obtain ⟨r, la, ln, lc, hr, rfl, rfl, hG⟩ := hrel
    by_cases h5 : r < 512
    · have r0 : (0 : Int) ≤ (r : Int) := by omega
      have r1 : (r : Int) < 512 := by omega
      obtain ⟨s1, s2, s3, s4, s5, s6⟩ := unhide HR wr (unhide hG).2.bel
      have s7 := s6 r h5
      have hll : ((List.range r).filter M1).length ≤ 512 := Nat.le_trans (List.length_filter_le _ _) (by simp; omega)
      clear s6
      cases hm : M1 r with
      | true =>
        rw [hm] at s7
        obtain ⟨ya, yc, w1, a1, a2⟩ := (unhide hG).2.push (unhide hG).1 (by omega) r
        have HRUN := hide a1
        rw [← filt_yes hm] at a2
        have HG2 : Hid (ln + 1 = ((List.range (r + 1)).filter M1).length ∧ NR X1 (.slice ya (ln + 1) yc) ((List.range (r + 1)).filter M1) w1) := ⟨by rw [(unhide hG).1, filt_yes hm]; simp, a2⟩
        have hlL : ln ≤ 512 := by rw [(unhide hG).1]; exact hll
        clear a1 a2 hll hm hG
        go_wp2_with (first | (at_builtin; refine wpList_appRunC rfl _ _ rfl rfl rfl (unhide HRUN) ?_))
        go_roundg (gk - 1)
        case measure => have := unhide hr; omega
        case rel => exact ⟨r + 1, ya, _, yc, by have := unhide hr; unfold Hid; omega, by go_num, rfl, HG2⟩
      | false =>
        rw [hm] at s7
        have HG2 : Hid (ln = ((List.range (r + 1)).filter M1).length ∧ NR X1 (.slice la ln lc) ((List.range (r + 1)).filter M1) wr) := by rw [filt_no hm]; exact hG
        clear hll hm hG
        go_wp2_with fail
        go_roundg (gk - 1)
        case measure => have := unhide hr; omega
        case rel => exact ⟨r + 1, la, ln, lc, by have := unhide hr; unfold Hid; omega, by go_num, rfl, HG2⟩
    · have r1 : ¬ (r : Int) < 512 := by omega
      have hr5 : r = 512 := by have := unhide hr; omega
      subst hr5
      have HF := hide (unhide hG)
      clear hG
      go_wp2_with fail
      go_ret
      obtain ⟨q1, q2⟩ := unhide HF
      subst q1
      exact ⟨_, _, rfl, q2.out (unhide HX)⟩

set_option linter.unusedVariables false
set_option linter.unusedSimpArgs false
/-- From a place on. -/
theorem slF (g o n c k : Nat) (h : k ≤ n) (hc : n ≤ c) : ∃ xa, (∀ W : World, (Instr.sliceAt 45 (.slice (some ⟨g, o, none⟩) n c) (some (.int .i64 (k : Int))) none none).run Tryd.prog W = .ok (.slice xa (n - k) (c - k)) W) ∧ (0 < n - k → xa = some ⟨g, o + k * 8, none⟩) := by
  have h0 : (0 : Int) ≤ (k : Int) := by omega
  have h1 : (k : Int) ≤ (n : Int) := by omega
  by_cases h2 : c = k
  · refine ⟨some ⟨g, o, none⟩, fun W => ?_, fun q => by omega⟩
    go_simp
  · refine ⟨some ⟨g, o + k * 8, none⟩, fun W => ?_, fun q => rfl⟩
    go_simp
theorem Rd.drop {D : Nat → Prop} {w : World} {sz n c k g o : Nat} {xs : List Value} {xa : Option Addr} (h : Rd D w sz (.slice (some ⟨g, o, none⟩) n c) n xs) (hk : k ≤ n) (hx : 0 < n - k → xa = some ⟨g, o + k * sz, none⟩) : Rd D w sz (.slice xa (n - k) (c - k)) (n - k) (xs.drop (k * sz)) := by
  obtain ⟨⟨h1, a, cap, e, h2, h3, h4⟩, h5⟩ := h
  cases e
  refine ⟨⟨by rw [List.length_drop, h1, Nat.sub_mul], xa, c - k, rfl, by omega, by omega, fun h0 => ?_⟩, fun h0 q hq => ?_⟩
  · obtain ⟨b, off, e2, hb, hcl⟩ := h4 (by omega)
    cases e2
    refine ⟨g, o + k * sz, hx h0, hb, fun j hj => ?_⟩
    rw [Nat.sub_mul] at hj
    have q := hcl (k * sz + j) (by omega)
    rw [List.getElem?_drop, ← q, Nat.add_assoc]
  · rw [hx h0] at hq
    exact h5 (by omega) q (by simpa [Value.ownBlock] using hq)
theorem InsV.drop {D : Nat → Prop} {w : World} {l : List RIn} {n c k g o : Nat} {xa : Option Addr} (h : InsV D w l (.slice (some ⟨g, o, none⟩) n c)) (hn : l.length = n) (hk : k ≤ n) (hx : 0 < n - k → xa = some ⟨g, o + k * 8, none⟩) : InsV D w (l.drop k) (.slice xa (n - k) (c - k)) := by
  obtain ⟨rs, h1, h2, h3⟩ := h
  rw [hn] at h2
  refine ⟨rs.drop k, by rw [List.length_drop, List.length_drop, h1], ?_, fun i u r hu hr => ?_⟩
  · rw [List.length_drop, hn, ← flt_drop zIn]
    exact h2.drop hk hx
  · rw [List.getElem?_drop] at hu hr
    exact h3 (k + i) u r hu hr
set_option maxRecDepth 100000 in
set_option maxHeartbeats 6400000 in
theorem after_any {w : World} {D0 : Nat → Prop} {fn regs : Int} {bl : List Bk} {v : Value} (h : BksV D0 w bl v) (hN : bl.length ≤ 1048576) (hO : ∀ u ∈ bl, OkL u) (hT : TT w) (b i : Int) :
    Calls Tryd.prog 9 #[.agg #[.int .i64 fn, .int .i64 regs, v], .int .i64 b, .int .i64 i] w (NP w (aft bl b i)) := by
  obtain ⟨va, vc, rfl, hv1, hv2⟩ := NV.shape h
  obtain ⟨N, hNN⟩ : ∃ z, Hid (bl.length = z) := ⟨_, hide rfl⟩
  obtain ⟨W, hW⟩ : ∃ W, Hid (w.alloc (.cells #[.int .i64 fn, .int .i64 regs, .slice va N vc] 24) = W) := ⟨_, hide rfl⟩
  have HW : Hid (Below w.heap.size w W) := by rw [← unhide hW]; exact box1n w _
  have hz0 : W.heap.size = w.heap.size + 1 := by rw [← unhide hW]; simp
  have hn := heap_alloc_new w (.cells #[.int .i64 fn, .int .i64 regs, .slice va N vc] 24)
  rw [unhide hW] at hn
  have c2 := (blk_cells hn).1 2
  have cl := (blk_cells hn).2.2
  simp at c2
  have hW' := unhide hW
  unfold maxLen at hv2
  by_cases hbr : 0 ≤ b ∧ b < (N : Int)
  · obtain ⟨b, rfl⟩ : ∃ n : Nat, b = (n : Int) := ⟨b.toNat, by omega⟩
    have hbN : b < N := by omega
    obtain ⟨u, hu⟩ : ∃ u, bl[b]? = some u := ⟨_, List.getElem?_eq_getElem (by rw [unhide hNN]; omega)⟩
    obtain ⟨vb, vo, ia, ic, na, nc, ea, hvb, hIns, _, hic, _, hicl, _, hcc⟩ := h.blk hu
    subst ea
    obtain ⟨n, hnn⟩ : ∃ z, Hid (u.ins.length = z) := ⟨_, hide rfl⟩
    rw [unhide hnn] at hcc hicl hIns
    have HCC := hide hcc
    unfold maxLen at hic
    have b0 : (0 : Int) ≤ (b : Int) := by omega
    have b1 : (b : Int) < (N : Int) := by omega
    have HWY := hide (fun V => within_yes (b : Int) (N : Int) b0 b1 V)
    by_cases hir : 0 ≤ i ∧ i < (n : Int)
    · obtain ⟨i, rfl⟩ : ∃ n : Nat, i = (n : Int) := ⟨i.toNat, by omega⟩
      have hin : i < n := by omega
      have HWI := hide (fun V => within_yes (i : Int) (n : Int) hir.1 hir.2 V)
      rw [aft_yes hu (by rw [unhide hnn]; omega)]
      obtain ⟨i1, hi1⟩ : ∃ z : Nat, Hid (i + 1 = z) := ⟨_, hide rfl⟩
      rw [unhide hi1]
      obtain ⟨S, hS⟩ : ∃ S, Hid (backL (wS bl b) (u.ins.drop i1) = S) := ⟨_, hide rfl⟩
      rw [unhide hS]
      have HC2 : Hid (∀ V, Below W.heap.size W V → w.heap.size < V.heap.size ∧ V.cell? ⟨w.heap.size, 2, none⟩ = some (.slice (some ⟨vb, vo, none⟩) N vc)) := fun V hV => by
        obtain ⟨q1, _, q3⟩ := blk_cells ((hV.block _ cl).trans hn)
        exact ⟨q3, by rw [q1]; rfl⟩
      have HBM : Hid (∀ X, Below w.heap.size w X → BksV D0 X bl (.slice (some ⟨vb, vo, none⟩) N vc)) := fun X hX => by
        have q := BksV.mv D0 D0 (fun _ => False) w X bl _ h (Fr.of_below hX) (fun k hk d => ⟨fun e => e, d⟩)
        rw [unhide hNN] at q
        exact q
      have HWN : Hid (∀ X, Below w.heap.size w X → Calls Tryd.prog 23 #[.slice (some ⟨vb, vo, none⟩) N vc] X fun e w' => ∃ As : List Wd, e = .returned (.slice (some ⟨X.heap.size, 0, none⟩) N N) ∧ Below X.heap.size X w' ∧ As.length = N ∧ (∀ A ∈ As, OkW A) ∧ Ro w' 8 (.slice (some ⟨X.heap.size, 0, none⟩) N N) N (flt enW As) ∧ ∀ b, Bof As b = wS bl b) := fun X hX => by
        have q := wanted_any (unhide HBM X hX) hN (fun u hu => (hO u hu).2.1) (fun u hu => (hO u hu).1)
        rw [unhide hNN] at q
        exact q
      have hul := (hO u (List.mem_of_getElem? hu)).1
      rw [unhide hnn] at hul
      obtain ⟨ib, io, cap, q, e4, hib, hDb, _, _⟩ := NV.at zIn hIns (i := i) (List.getElem?_eq_getElem (by rw [unhide hnn]; exact hin))
      obtain rfl : ia = some ⟨ib, io, none⟩ := by cases e4; rfl
      clear e4
      have hk1 : i1 ≤ n := by have := unhide hi1; omega
      obtain ⟨xa, hsl, hxa⟩ := slF ib io n ic i1 hk1 hicl
      have HIN : Hid (InsV D0 w (u.ins.drop i1) (.slice xa (n - i1) (ic - i1))) := hIns.drop (unhide hnn) hk1 hxa
      have HSL := hide hsl
      have HUI : Hid ((u.ins.drop i1).length ≤ 1048576) := by unfold Hid; rw [List.length_drop, unhide hnn]; omega
      have ei1 : (i : Int) + 1 = (i1 : Int) := by have := unhide hi1; omega
      have wi1 : IntKind.i64.wrap (i1 : Int) = (i1 : Int) := by go_arith
      have i0 : (0 : Int) ≤ (i : Int) := by omega
      have j1 : (i : Int) < (n : Int) := by omega
      have j2 : (0 : Int) ≤ (i1 : Int) := by omega
      have j3 : (i1 : Int) ≤ (n : Int) := by omega
      have HT := hide hT
      have HU := hide hu
      have HNN := hNN
      have HDB := hide hDb
      rw [unhide hNN] at hv1 hN ⊢
      clear h hO hIns hcc hsl hxa hT hu hW hDb hn
      go_enter Tryd.func9, Tryd.ntmps9
      go_wp2_with fail
      refine (unhide HWY W).mono ?_
      rintro e w1 ⟨rfl, m, hm⟩
      have HB1 : Hid (Below W.heap.size W w1) := by rw [hm]; exact bl_drewN W m
      obtain ⟨d0, d2⟩ := unhide HC2 w1 (unhide HB1)
      obtain ⟨t0, t1, t2, t3⟩ := unhide HCC w1 ((unhide HW).trans ((unhide HB1).mono (unhide HW).size))
      clear hm c2 cl hW'
      go_wp2_with fail
      refine (unhide HWI w1).mono ?_
      rintro e w2 ⟨rfl, m, hm⟩
      have HB2 : Hid (Below W.heap.size W w2) := by rw [hm]; exact (unhide HB1).trans ((bl_drewN w1 m).mono (unhide HB1).size)
      clear hm d0 d2 t0 t1 t2 t3
      obtain ⟨d0, d2⟩ := unhide HC2 w2 (unhide HB2)
      go_wp2_with fail
      have HWB2 : Hid (Below w.heap.size w w2) := (unhide HW).trans ((unhide HB2).mono (unhide HW).size)
      refine (unhide HWN w2 (unhide HWB2)).mono ?_
      rintro e w3 ⟨As, rfl, hbA, hAl, hAo, hAr, hAB⟩
      clear d0 d2
      obtain ⟨A, hA⟩ : ∃ A, As[b]? = some A := ⟨_, List.getElem?_eq_getElem (by rw [hAl]; exact hbN)⟩
      have HOA : Hid (OkW A) := hAo A (List.mem_of_getElem? hA)
      have HSA : Hid (sS A = wS bl b) := by have q := hAB b; rw [Bof_at hA] at q; exact q
      obtain ⟨al, a0, a1, a2, a3, a4, a5, a6, a7⟩ := hAr.cells8 hAl hA
      have HB3 : Hid (Below W.heap.size W w3) := (unhide HB2).trans (hbA.mono (unhide HB2).size)
      obtain ⟨W4, hW4⟩ : ∃ w4, Hid (w3.alloc (Obj.cells #[.int .u64 0, .int .u64 0, .int .u64 0, .int .u64 0, .int .u64 0, .int .u64 0, .int .u64 0, .int .u64 0] 62) = w4) := ⟨_, hide rfl⟩
      have HB4 : Hid (Below w3.heap.size w3 W4) := by rw [← unhide hW4]; exact box1n w3 _
      have HZB : Hid (W4.heap[w3.heap.size]? = some (.cells (wdA (fun _ => 0)) 62)) := by rw [← unhide hW4]; exact heap_alloc_new w3 _
      obtain ⟨el, c0, c1, c2, c3, c4, c5, c6, c7⟩ := cells8 (unhide HZB)
      have g0 := frz8 (unhide HZB) 0
      have g1 := frz8 (unhide HZB) 1
      have g2 := frz8 (unhide HZB) 2
      have g3 := frz8 (unhide HZB) 3
      have g4 := frz8 (unhide HZB) 4
      have g5 := frz8 (unhide HZB) 5
      have g6 := frz8 (unhide HZB) 6
      have g7 := frz8 (unhide HZB) 7
      have hW4' := unhide hW4
      obtain ⟨X5, hX5⟩ : ∃ X5, Hid ((((((((W4.setCell ⟨w3.heap.size, 0, none⟩ (.int .u64 (A 0 : Int))).setCell ⟨w3.heap.size, 1, none⟩ (.int .u64 (A 1 : Int))).setCell ⟨w3.heap.size, 2, none⟩ (.int .u64 (A 2 : Int))).setCell ⟨w3.heap.size, 3, none⟩ (.int .u64 (A 3 : Int))).setCell ⟨w3.heap.size, 4, none⟩ (.int .u64 (A 4 : Int))).setCell ⟨w3.heap.size, 5, none⟩ (.int .u64 (A 5 : Int))).setCell ⟨w3.heap.size, 6, none⟩ (.int .u64 (A 6 : Int))).setCell ⟨w3.heap.size, 7, none⟩ (.int .u64 (A 7 : Int)) = X5) := ⟨_, hide rfl⟩
      have hX5' := unhide hX5
      have HFB := box8 (C := A) (unhide HZB)
      rw [unhide hX5] at HFB
      have HFB := hide HFB
      have hz3 : w.heap.size < w3.heap.size := by have := (unhide HB3).size; omega
      have HB5 : Hid (Below W.heap.size W X5) := ((unhide HB3).trans ((unhide HB4).mono (unhide HB3).size)).trans ((unhide HFB).2.below (by have h1 := (unhide HB3).size; have h2 := (unhide HB4).size; omega) (fun k hk e => by have := (unhide HB3).size; omega))
      obtain ⟨d0, d2⟩ := unhide HC2 X5 (unhide HB5)
      obtain ⟨t0, t1, t2, t3⟩ := unhide HCC X5 ((unhide HW).trans ((unhide HB5).mono (unhide HW).size))
      have hsl := unhide HSL
      clear hbA hAl hAo hAr hAB hA
      go_wp2_with fail
      have HX5 : Hid (Below w.heap.size w X5) := (unhide HW).trans ((unhide HB5).mono (unhide HW).size)
      have HIX : InsV (fun k => k < w.heap.size) X5 (u.ins.drop i1) (.slice xa (n - i1) (ic - i1)) := InsV.mv _ _ _ _ _ _ _ (unhide HIN) (Fr.of_below (S := fun _ => False) (unhide HX5)) (fun k hk d => ⟨fun e => e, hk⟩)
      have HSB : SB X5 w3.heap.size (wS bl b) := ⟨A, unhide HOA, (unhide HFB).1, unhide HSA⟩
      have HGB := hide (goBack_any HIX (fun k hk => by omega) HSB (unhide HUI))
      clear d0 d2 t0 t1 t2 t3 hsl HIX HSB hX5' hX5 hW4' hW4 c0 c1 c2 c3 c4 c5 c6 c7 g0 g1 g2 g3 g4 g5 g6 g7 a0 a1 a2 a3 a4 a5 a6 a7 al el
      refine (unhide HGB).mono ?_
      rintro e X6 ⟨⟨v6, rfl⟩, hf6, hs6⟩
      obtain ⟨A6, hA6, hb6, hS6⟩ := hs6
      have HX6 : Hid (Below w.heap.size w X6) := (unhide HX5).trans (hf6.below (unhide HX5).size (fun k hk e => by omega))
      have HLS := hide (list_any hA6 hb6 ((unhide HT).below (unhide HT).1 (unhide HX6)))
      rw [hS6, unhide hS] at HLS
      clear hf6 hA6 hb6 hS6
      go_wp2_with fail
      refine (unhide HLS).mono ?_
      rintro e X7 ⟨ya, yc, rfl, h7⟩
      have H7 := hide (h7.out (unhide HX6))
      clear h7
      go_wp2_with fail
      go_ret
      exact ⟨_, _, rfl, unhide H7⟩
    · have HWI := hide (fun V => within_no i (n : Int) hir V)
      rw [aft_no hu (by rw [unhide hnn]; omega)]
      have HC2 : Hid (∀ V, Below W.heap.size W V → w.heap.size < V.heap.size ∧ V.cell? ⟨w.heap.size, 2, none⟩ = some (.slice (some ⟨vb, vo, none⟩) N vc)) := fun V hV => by
        obtain ⟨q1, _, q3⟩ := blk_cells ((hV.block _ cl).trans hn)
        rw [← unhide hNN]
        exact ⟨q3, by rw [q1, unhide hNN]; rfl⟩
      rw [unhide hNN] at hv1 hN ⊢
      clear h hO hIns hcc hT hu hW hn
      go_enter Tryd.func9, Tryd.ntmps9
      go_wp2_with fail
      refine (unhide HWY W).mono ?_
      rintro e w1 ⟨rfl, m, hm⟩
      have HB1 : Hid (Below W.heap.size W w1) := by rw [hm]; exact bl_drewN W m
      obtain ⟨d0, d2⟩ := unhide HC2 w1 (unhide HB1)
      obtain ⟨t0, t1, t2, t3⟩ := unhide HCC w1 ((unhide HW).trans ((unhide HB1).mono (unhide HW).size))
      clear hm c2 cl hW'
      go_wp2_with fail
      refine (unhide HWI w1).mono ?_
      rintro e w2 ⟨rfl, m, hm⟩
      have HB2 : Hid (Below W.heap.size W w2) := by rw [hm]; exact (unhide HB1).trans ((bl_drewN w1 m).mono (unhide HB1).size)
      clear hm d0 d2 t0 t1 t2 t3
      go_wp2_with fail
      go_ret
      exact NP.nil ((unhide HW).trans ((unhide HB2).mono (unhide HW).size))
  · have HWY := hide (fun V => within_no b (N : Int) hbr V)
    have ha0 : aft bl b i = [] := by
      by_cases h0 : b < 0
      · exact aft_neg bl i h0
      · exact aft_out bl i (by rw [unhide hNN]; omega)
    rw [ha0]
    rw [unhide hNN] at hv1 hN ⊢
    clear h hO hT hW hn ha0
    go_enter Tryd.func9, Tryd.ntmps9
    go_wp2_with fail
    refine (unhide HWY W).mono ?_
    rintro e w1 ⟨rfl, m, hm⟩
    have HB1 : Hid (Below W.heap.size W w1) := by rw [hm]; exact bl_drewN W m
    clear hm c2 cl hW'
    go_wp2_with fail
    go_ret
    exact NP.nil ((unhide HW).trans ((unhide HB1).mono (unhide HW).size))
end Go.Proofs.YtpbdmbmafjkinaaDoor
