/-
  Fits of both sides.
-/
import Derived.Test.YtnefmfnchimppaaIfA
import Derived.Test.YtnefmfnchimppaaFind0
import Derived.Laws.ResultCell
namespace Go.Proofs.Ytnefmfnchimppaa
open Go.RowKit
set_option linter.unusedVariables false
set_option linter.unusedSimpArgs false
/-- The function of a number. -/
def fnAt (p : Pg) (k : Int) : Option Fc := if 0 ≤ k then p.funcs[k.toNat]? else none
theorem fnAt_some {p : Pg} {k : Int} {f : Fc} (h : fnAt p k = some f) : 0 ≤ k ∧ k < p.funcs.length ∧ p.funcs[k.toNat]? = some f := by
  unfold fnAt at h
  split at h
  · have := (List.getElem?_eq_some_iff.1 h).1
    exact ⟨by assumption, by omega, h⟩
  · cases h
theorem fnAt_none {p : Pg} {k : Int} (h : fnAt p k = none) : k < 0 ∨ (p.funcs.length : Int) ≤ k := by
  unfold fnAt at h
  split at h
  · have := List.getElem?_eq_none_iff.1 h
    omega
  · omega
theorem blk_cells {w : World} {k : Nat} {arr : Array Value} {t : TypeId} (h : w.heap[k]? = some (.cells arr t)) : (∀ j, w.cell? ⟨k, j, none⟩ = arr[j]?) ∧ (∀ j, w.frozen? ⟨k, j, none⟩ = false) ∧ k < w.heap.size :=
  ⟨fun j => by simp [World.cell?, h], fun j => by simp [World.frozen?, h], (Array.getElem?_eq_some_iff.1 h).1⟩
theorem blkT {X Y : World} {k : Nat} {o : Obj} (h : X.heap[k]? = some o) (hb : Below X.heap.size X Y) : Y.heap[k]? = some o := (hb.block k (Array.getElem?_eq_some_iff.1 h).1).trans h
/-- Are these instructions but the last done one behind the other? -/
def goB (l : List (Int × Int)) : Bool := l.all fun i => stB i.1
/-- Is it a small function? -/
def ftG (g : Fc) : Bool := decide (1 ≤ g.code.length) && decide (g.code.length ≤ 24) && decide (g.hs.length = 0) && decide ((g.code.getD (g.code.length - 1) (0, 0)).1 = 44) && goB (g.code.take (g.code.length - 1))
def ftB (p : Pg) (k : Int) : Bool := match fnAt p k with | none => false | some g => ftG g
theorem goB_no {l : List (Int × Int)} {i n : Nat} {z : Int × Int} (hz : l[i]? = some z) (hi : i < n) (h : stB z.1 = false) : goB (l.take n) = false := by
  unfold goB
  rw [List.all_eq_false]
  exact ⟨z, List.mem_iff_getElem?.2 ⟨i, by rw [List.getElem?_take_of_lt hi]; exact hz⟩, by rw [h]; exact Bool.noConfusion⟩
theorem goB_more {l : List (Int × Int)} {i : Nat} {z : Int × Int} (hz : l[i]? = some z) (h : stB z.1 = true) (hg : goB (l.take i) = true) : goB (l.take (i + 1)) = true := by
  unfold goB at *
  rw [List.take_add_one, hz, List.all_append, hg]
  simp [h]
set_option maxRecDepth 100000 in
set_option maxHeartbeats 6400000 in
theorem fits_any {w : World} {v : Value} {p : Pg} (h : PgV w v p) (k : Int) (hN : p.funcs.length ≤ 1048576) :
    Calls Try.prog 5 #[v, .int .i64 k] w fun e w' => e = .returned (.bool (ftB p k)) ∧ Below w.heap.size w w' := by
  obtain ⟨cv, fv, rfl, hc, hf⟩ := h
  obtain ⟨ca, cc, rfl⟩ : ∃ a c, cv = .slice a p.consts.length c := by obtain ⟨_, a, c, e, _⟩ := hc; exact ⟨a, c, e⟩
  obtain ⟨a, cap, rfl, hlc, hcm, hat⟩ := hf.at
  obtain ⟨NF, hNF⟩ : ∃ n, Hid (p.funcs.length = n) := ⟨_, hide rfl⟩
  rw [unhide hNF] at hN hlc ⊢
  unfold maxLen at hcm
  have HBE : Hid (∀ o1, Below w.heap.size w (w.alloc o1)) := fun o1 => (Below.refl _ w).alloc (Nat.le_refl _) o1
  unfold ftB
  cases hq : fnAt p k with
  | none =>
    have hk := fnAt_none hq
    rw [unhide hNF] at hk
    clear hat hf hc hq
    by_cases kz : k < 0
    · have kz' : decide (k < 0) = true := decide_eq_true kz
      clear hk
      go_enter Try.func5, Try.ntmps5
      go_wp2_with fail
      go_ret
      exact ⟨rfl, unhide HBE _⟩
    · have kz' : decide (k < 0) = false := decide_eq_false kz
      have kn : decide ((NF : Int) ≤ k) = true := decide_eq_true (by omega)
      clear hk kz
      go_enter Try.func5, Try.ntmps5
      go_wp2_with fail
      go_ret
      exact ⟨rfl, unhide HBE _⟩
  | some g =>
    obtain ⟨k0, k1, hk⟩ := fnAt_some hq
    obtain ⟨b, off, x, rfl, hb, hx, hcs⟩ := hat _ g hk
    obtain ⟨K, hK⟩ : ∃ K : Nat, Hid (k.toNat = K) := ⟨_, hide rfl⟩
    rw [unhide hK] at hcs hk
    obtain rfl : k = (K : Int) := by have := unhide hK; omega
    obtain ⟨a1, c1, a2, c2, rfl⟩ := hx.parts
    have g0 := hcs 0 _ rfl
    have g1 := hcs 1 _ rfl
    have g2 := hcs 2 _ rfl
    have g3 := hcs 3 _ rfl
    have g4 := hcs 4 _ rfl
    rw [Nat.add_zero] at g0
    rw [unhide hNF] at k1
    have kz : decide ((K : Int) < 0) = false := decide_eq_false (by omega)
    have kn : decide ((NF : Int) ≤ (K : Int)) = false := decide_eq_false (by omega)
    have HCD := hide hx.2.2.2.1
    obtain ⟨hcl, hcm1⟩ : g.code.length ≤ c1 ∧ c1 ≤ maxLen := by obtain ⟨_, a, c, e, h1, h2, _⟩ := hx.2.2.2.1; cases e; exact ⟨h1, h2⟩
    unfold maxLen at hcm1
    have HEL := hide (fun i z (hz : g.code[i]? = some z) => hx.2.2.2.1.elem zI hz)
    obtain ⟨N, hNs⟩ : ∃ N, Hid (g.code.length = N) := ⟨_, hide rfl⟩
    obtain ⟨M, hM⟩ : ∃ M, Hid (g.hs.length = M) := ⟨_, hide rfl⟩
    simp only [unhide hNs] at g3 HEL hcl
    simp only [unhide hM] at g4
    have HB2 : Hid (∀ o1 o2, Below w.heap.size w ((w.alloc o1).alloc o2)) := fun o1 o2 => ((Below.refl _ w).alloc (Nat.le_refl _) o1).alloc (by simp only [World.size_alloc]; omega) o2
    show Calls Try.prog 5 _ _ fun e w' => e = .returned (.bool (ftG g)) ∧ _
    obtain ⟨an, han⟩ : ∃ an, Hid (ftG g = an) := ⟨_, hide rfl⟩
    rw [unhide han]
    clear hat hf hc hq hcs hk hx hK HBE HCD
    by_cases m1 : N = 0
    · have HA : Hid (an = false) := by
        unfold Hid; rw [← unhide han]; unfold ftG
        rw [decide_eq_false (by have := unhide hNs; omega : ¬ 1 ≤ g.code.length)]; rfl
      have n1 : decide ((N : Int) < 1) = true := decide_eq_true (by omega)
      clear m1 han HEL
      go_enter Try.func5, Try.ntmps5
      go_wp2_with fail
      go_ret
      rw [unhide HA]
      exact ⟨rfl, unhide HB2 _ _⟩
    have n1 : decide ((N : Int) < 1) = false := decide_eq_false (by omega)
    by_cases m2 : 24 < N
    · have HA : Hid (an = false) := by
        unfold Hid; rw [← unhide han]; unfold ftG
        rw [decide_eq_false (by have := unhide hNs; omega : ¬ g.code.length ≤ 24), Bool.and_false]; rfl
      have n2 : decide (24 < (N : Int)) = true := decide_eq_true (by omega)
      clear m1 m2 han HEL
      go_enter Try.func5, Try.ntmps5
      go_wp2_with fail
      go_ret
      rw [unhide HA]
      exact ⟨rfl, unhide HB2 _ _⟩
    have n2 : decide (24 < (N : Int)) = false := decide_eq_false (by omega)
    by_cases m3 : 0 < M
    · have HA : Hid (an = false) := by
        unfold Hid; rw [← unhide han]; unfold ftG
        rw [decide_eq_false (by have := unhide hM; omega : ¬ g.hs.length = 0)]; simp
      have n3 : decide (0 < M) = true := decide_eq_true m3
      clear m1 m2 han HEL
      go_enter Try.func5, Try.ntmps5
      go_wp2_with fail
      go_ret
      rw [unhide HA]
      exact ⟨rfl, unhide HB2 _ _⟩
    obtain rfl : M = 0 := by omega
    obtain ⟨L, hL⟩ : ∃ L, Hid (N = L + 1) := ⟨N - 1, by unfold Hid; omega⟩
    obtain ⟨y, hy⟩ : ∃ y, g.code[L]? = some y := ⟨_, List.getElem?_eq_getElem (by rw [unhide hNs, unhide hL]; omega)⟩
    obtain ⟨hb1, ho1, hc1, eh, _, _, hbl, hcs⟩ := unhide HEL L y hy
    cases eh
    have y0 := hcs 0 _ rfl
    rw [Nat.add_zero] at y0
    have HED : Hid (ftG g = (decide (y.1 = 44) && goB (g.code.take L))) := by
      unfold Hid ftG
      rw [decide_eq_true (by have := unhide hNs; omega : 1 ≤ g.code.length), decide_eq_true (by have := unhide hNs; omega : g.code.length ≤ 24), decide_eq_true (by have := unhide hM; omega : g.hs.length = 0)]
      have e1 : g.code.length - 1 = L := by have := unhide hNs; have := unhide hL; omega
      rw [e1, List.getD_eq_getElem?_getD, hy]
      rfl
    have i0 : (0 : Int) ≤ (L : Int) := by omega
    have i1 : (L : Int) < (N : Int) := by have := unhide hL; omega
    have iw : IntKind.i64.wrap ((N : Int) - 1) = (L : Int) := by
      have : ((N : Int) - 1) = (L : Int) := by have := unhide hL; omega
      rw [this]; have := unhide hL; go_arith
    have HL24 : Hid (L < 24) := by have := unhide hL; unfold Hid; omega
    have iL : L ≤ N := by have := unhide hL; omega
    by_cases m4 : y.1 = 44
    case neg =>
      have HA : Hid (an = false) := by unfold Hid; rw [← unhide han, unhide HED, decide_eq_false m4]; rfl
      have n4 : (y.1 == 44) = false := by simpa using m4
      clear m1 m2 m3 m4 han HEL HED hcs hy
      go_enter Try.func5, Try.ntmps5
      go_wp2_with fail
      go_ret
      rw [unhide HA]
      exact ⟨rfl, unhide HB2 _ _⟩
    have HED2 : Hid (an = goB (g.code.take L)) := by unfold Hid; rw [← unhide han, unhide HED, decide_eq_true m4]; rfl
    rw [m4] at y0
    clear m1 m2 m3 m4 han HED hcs hy
    go_enter Try.func5, Try.ntmps5
    go_wp2_with fail
    obtain ⟨q, hq⟩ : ∃ q, Hid (w.heap.size + 1 = q) := ⟨_, hide rfl⟩
    obtain ⟨W2, hW2⟩ : ∃ W, Hid ((w.alloc (.cells #[.slice ca p.consts.length cc, .slice (some ⟨b, off, none⟩) NF cap] 25)).alloc (.cells #[.string g.name, .int .i64 g.params, .int .i64 g.locals, .slice (some ⟨hb1, ho1, none⟩) N c1, .slice a2 0 c2] 34) = W) := ⟨_, hide rfl⟩
    have HBF : Hid (W2.heap[q]? = some (.cells #[.string g.name, .int .i64 g.params, .int .i64 g.locals, .slice (some ⟨hb1, ho1, none⟩) N c1, .slice a2 0 c2] 34)) := by
      unfold Hid
      rw [← unhide hW2, ← unhide hq]
      have := heap_alloc_new (w.alloc (.cells #[.slice ca p.consts.length cc, .slice (some ⟨b, off, none⟩) NF cap] 25)) (.cells #[.string g.name, .int .i64 g.params, .int .i64 g.locals, .slice (some ⟨hb1, ho1, none⟩) N c1, .slice a2 0 c2] 34)
      simpa only [World.size_alloc] using this
    have HW2 : Hid (Below w.heap.size w W2) := by rw [← unhide hW2]; exact unhide HB2 _ _
    have HGO : Hid (∀ i, i < L → ∃ z, g.code[i]? = some z ∧ w.cell? ⟨hb1, ho1 + i * 2, none⟩ = some (.int .i64 z.1) ∧ w.cell? ⟨hb1, ho1 + i * 2 + 1, none⟩ = some (.int .i64 z.2)) := fun i hi => by
      obtain ⟨z, hz⟩ : ∃ z, g.code[i]? = some z := ⟨_, List.getElem?_eq_getElem (by rw [unhide hNs, unhide hL]; omega)⟩
      obtain ⟨b', o', c', eh, _, _, _, hcs⟩ := unhide HEL i z hz
      cases eh
      exact ⟨z, hz, hcs 0 _ rfl, hcs 1 _ rfl⟩
    rw [unhide hW2, unhide hq]
    clear HEL g0 g1 g2 g3 g4 y0
    go_loopg [54] L (fun gg t wr => ∃ (i : Nat), Hid (i + gg = L) ∧ t = .int .i64 (i : Int) ∧ Hid (Below W2.heap.size W2 wr ∧ goB (g.code.take i) = true))
    case atStart => exact ⟨0, by unfold Hid; omega, rfl, Below.refl _ _, rfl⟩
    case round =>
      obtain ⟨i, hi, rfl, hG⟩ := hrel
      have bw := (unhide hG).1
      have HBW := hide ((unhide HW2).trans (bw.mono (unhide HW2).size))
      by_cases hlt : i < L
      · obtain ⟨z, hz, z0, z1⟩ := unhide HGO i hlt
        have e0 : wr.cell? ⟨hb1, ho1 + i * 2, none⟩ = some (.int .i64 z.1) := ((unhide HBW).cell (p := ⟨hb1, _, none⟩) hbl).trans z0
        have e1 : wr.cell? ⟨hb1, ho1 + i * 2 + 1, none⟩ = some (.int .i64 z.2) := ((unhide HBW).cell (p := ⟨hb1, _, none⟩) hbl).trans z1
        have hbl3 := Nat.lt_of_lt_of_le hbl (unhide HBW).size
        have j0 : (0 : Int) ≤ (i : Int) := by omega
        have j1 : (i : Int) < (L : Int) := by omega
        have j2 : (i : Int) < (N : Int) := by have := unhide hL; omega
        obtain ⟨d1, _, l3⟩ := blk_cells (blkT (unhide HBF) bw)
        have f3 := d1 3
        have HNO : Hid (stB z.1 = false → an = false) := fun h => (unhide HED2).trans (goB_no hz hlt h)
        have HYE : Hid (stB z.1 = true → goB (g.code.take (i + 1)) = true) := fun h => goB_more hz h (unhide hG).2
        have HAL : Hid (∀ o, Below W2.heap.size W2 (wr.alloc o)) := fun o => bw.alloc bw.size o
        have HAW : Hid (∀ o, Below w.heap.size w (wr.alloc o)) := fun o => (unhide HBW).alloc (unhide HBW).size o
        have HB0 := hide bw
        clear hG bw hz z0 z1 d1 HGO
        have HC := hide (fun (Y : World) => straight_any Y z.1)
        go_wp2_with fail
        refine (unhide HC _).mono ?_
        rintro e w1 ⟨rfl, rfl⟩
        cases hs : stB z.1 with
        | true =>
          have HY := hide (unhide HYE hs)
          clear hs
          go_wp2_with fail
          go_roundg (gk - 1)
          case measure => have := unhide hi; omega
          case rel => exact ⟨i + 1, by have := unhide hi; unfold Hid; omega, by go_num, unhide HAL _, unhide HY⟩
        | false =>
          have HA := hide (unhide HNO hs)
          clear hs
          go_wp2_with fail
          go_ret
          rw [unhide HA]
          exact ⟨rfl, unhide HAW _⟩
      · have hi0 : i = L ∧ gk = 0 := by have := unhide hi; omega
        obtain ⟨rfl, rfl⟩ := hi0
        have HA : Hid (an = true) := (unhide HED2).trans (unhide hG).2
        obtain ⟨d1, _, l3⟩ := blk_cells (blkT (unhide HBF) bw)
        have f3 := d1 3
        clear hG bw d1 HGO
        go_wp2_with fail
        go_ret
        rw [unhide HA]
        exact ⟨rfl, unhide HBW⟩
set_option maxRecDepth 100000 in
set_option maxHeartbeats 6400000 in
theorem rfits_any {w : World} {v : Value} {p : Pg} (h : PgV w v p) (k : Int) (hN : p.funcs.length ≤ 1048576) :
    Calls Try.prog 6 #[v, .int .i64 k] w fun e w' => e = .returned (.bool (ftB p k)) ∧ Below w.heap.size w w' := by
  obtain ⟨cv, fv, rfl, hc, hf⟩ := h
  obtain ⟨ca, cc, rfl⟩ : ∃ a c, cv = .slice a p.consts.length c := by obtain ⟨_, a, c, e, _⟩ := hc; exact ⟨a, c, e⟩
  obtain ⟨a, cap, rfl, hlc, hcm, hat⟩ := hf.at
  obtain ⟨NF, hNF⟩ : ∃ n, Hid (p.funcs.length = n) := ⟨_, hide rfl⟩
  rw [unhide hNF] at hN hlc ⊢
  unfold maxLen at hcm
  have HBE : Hid (∀ o1, Below w.heap.size w (w.alloc o1)) := fun o1 => (Below.refl _ w).alloc (Nat.le_refl _) o1
  unfold ftB
  cases hq : fnAt p k with
  | none =>
    have hk := fnAt_none hq
    rw [unhide hNF] at hk
    clear hat hf hc hq
    by_cases kz : k < 0
    · have kz' : decide (k < 0) = true := decide_eq_true kz
      clear hk
      go_enter Try.func6, Try.ntmps6
      go_wp2_with fail
      go_ret
      exact ⟨rfl, unhide HBE _⟩
    · have kz' : decide (k < 0) = false := decide_eq_false kz
      have kn : decide ((NF : Int) ≤ k) = true := decide_eq_true (by omega)
      clear hk kz
      go_enter Try.func6, Try.ntmps6
      go_wp2_with fail
      go_ret
      exact ⟨rfl, unhide HBE _⟩
  | some g =>
    obtain ⟨k0, k1, hk⟩ := fnAt_some hq
    obtain ⟨b, off, x, rfl, hb, hx, hcs⟩ := hat _ g hk
    obtain ⟨K, hK⟩ : ∃ K : Nat, Hid (k.toNat = K) := ⟨_, hide rfl⟩
    rw [unhide hK] at hcs hk
    obtain rfl : k = (K : Int) := by have := unhide hK; omega
    obtain ⟨a1, c1, a2, c2, rfl⟩ := hx.parts
    have g0 := hcs 0 _ rfl
    have g1 := hcs 1 _ rfl
    have g2 := hcs 2 _ rfl
    have g3 := hcs 3 _ rfl
    have g4 := hcs 4 _ rfl
    rw [Nat.add_zero] at g0
    rw [unhide hNF] at k1
    have kz : decide ((K : Int) < 0) = false := decide_eq_false (by omega)
    have kn : decide ((NF : Int) ≤ (K : Int)) = false := decide_eq_false (by omega)
    have HCD := hide hx.2.2.2.1
    obtain ⟨hcl, hcm1⟩ : g.code.length ≤ c1 ∧ c1 ≤ maxLen := by obtain ⟨_, a, c, e, h1, h2, _⟩ := hx.2.2.2.1; cases e; exact ⟨h1, h2⟩
    unfold maxLen at hcm1
    have HEL := hide (fun i z (hz : g.code[i]? = some z) => hx.2.2.2.1.elem zI hz)
    obtain ⟨N, hNs⟩ : ∃ N, Hid (g.code.length = N) := ⟨_, hide rfl⟩
    obtain ⟨M, hM⟩ : ∃ M, Hid (g.hs.length = M) := ⟨_, hide rfl⟩
    simp only [unhide hNs] at g3 HEL hcl
    simp only [unhide hM] at g4
    have HB2 : Hid (∀ o1 o2, Below w.heap.size w ((w.alloc o1).alloc o2)) := fun o1 o2 => ((Below.refl _ w).alloc (Nat.le_refl _) o1).alloc (by simp only [World.size_alloc]; omega) o2
    show Calls Try.prog 6 _ _ fun e w' => e = .returned (.bool (ftG g)) ∧ _
    obtain ⟨an, han⟩ : ∃ an, Hid (ftG g = an) := ⟨_, hide rfl⟩
    rw [unhide han]
    clear hat hf hc hq hcs hk hx hK HBE HCD
    by_cases m1 : N = 0
    · have HA : Hid (an = false) := by
        unfold Hid; rw [← unhide han]; unfold ftG
        rw [decide_eq_false (by have := unhide hNs; omega : ¬ 1 ≤ g.code.length)]; rfl
      have n1 : decide ((N : Int) < 1) = true := decide_eq_true (by omega)
      clear m1 han HEL
      go_enter Try.func6, Try.ntmps6
      go_wp2_with fail
      go_ret
      rw [unhide HA]
      exact ⟨rfl, unhide HB2 _ _⟩
    have n1 : decide ((N : Int) < 1) = false := decide_eq_false (by omega)
    by_cases m2 : 24 < N
    · have HA : Hid (an = false) := by
        unfold Hid; rw [← unhide han]; unfold ftG
        rw [decide_eq_false (by have := unhide hNs; omega : ¬ g.code.length ≤ 24), Bool.and_false]; rfl
      have n2 : decide (24 < (N : Int)) = true := decide_eq_true (by omega)
      clear m1 m2 han HEL
      go_enter Try.func6, Try.ntmps6
      go_wp2_with fail
      go_ret
      rw [unhide HA]
      exact ⟨rfl, unhide HB2 _ _⟩
    have n2 : decide (24 < (N : Int)) = false := decide_eq_false (by omega)
    by_cases m3 : 0 < M
    · have HA : Hid (an = false) := by
        unfold Hid; rw [← unhide han]; unfold ftG
        rw [decide_eq_false (by have := unhide hM; omega : ¬ g.hs.length = 0)]; simp
      have n3 : decide (0 < M) = true := decide_eq_true m3
      clear m1 m2 han HEL
      go_enter Try.func6, Try.ntmps6
      go_wp2_with fail
      go_ret
      rw [unhide HA]
      exact ⟨rfl, unhide HB2 _ _⟩
    obtain rfl : M = 0 := by omega
    obtain ⟨L, hL⟩ : ∃ L, Hid (N = L + 1) := ⟨N - 1, by unfold Hid; omega⟩
    obtain ⟨y, hy⟩ : ∃ y, g.code[L]? = some y := ⟨_, List.getElem?_eq_getElem (by rw [unhide hNs, unhide hL]; omega)⟩
    obtain ⟨hb1, ho1, hc1, eh, _, _, hbl, hcs⟩ := unhide HEL L y hy
    cases eh
    have y0 := hcs 0 _ rfl
    rw [Nat.add_zero] at y0
    have HED : Hid (ftG g = (decide (y.1 = 44) && goB (g.code.take L))) := by
      unfold Hid ftG
      rw [decide_eq_true (by have := unhide hNs; omega : 1 ≤ g.code.length), decide_eq_true (by have := unhide hNs; omega : g.code.length ≤ 24), decide_eq_true (by have := unhide hM; omega : g.hs.length = 0)]
      have e1 : g.code.length - 1 = L := by have := unhide hNs; have := unhide hL; omega
      rw [e1, List.getD_eq_getElem?_getD, hy]
      rfl
    have i0 : (0 : Int) ≤ (L : Int) := by omega
    have i1 : (L : Int) < (N : Int) := by have := unhide hL; omega
    have iw : IntKind.i64.wrap ((N : Int) - 1) = (L : Int) := by
      have : ((N : Int) - 1) = (L : Int) := by have := unhide hL; omega
      rw [this]; have := unhide hL; go_arith
    have HL24 : Hid (L < 24) := by have := unhide hL; unfold Hid; omega
    have iL : L ≤ N := by have := unhide hL; omega
    by_cases m4 : y.1 = 44
    case neg =>
      have HA : Hid (an = false) := by unfold Hid; rw [← unhide han, unhide HED, decide_eq_false m4]; rfl
      have n4 : (y.1 == 44) = false := by simpa using m4
      clear m1 m2 m3 m4 han HEL HED hcs hy
      go_enter Try.func6, Try.ntmps6
      go_wp2_with fail
      go_ret
      rw [unhide HA]
      exact ⟨rfl, unhide HB2 _ _⟩
    have HED2 : Hid (an = goB (g.code.take L)) := by unfold Hid; rw [← unhide han, unhide HED, decide_eq_true m4]; rfl
    rw [m4] at y0
    clear m1 m2 m3 m4 han HED hcs hy
    go_enter Try.func6, Try.ntmps6
    go_wp2_with fail
    obtain ⟨q, hq⟩ : ∃ q, Hid (w.heap.size + 1 = q) := ⟨_, hide rfl⟩
    obtain ⟨W2, hW2⟩ : ∃ W, Hid ((w.alloc (.cells #[.slice ca p.consts.length cc, .slice (some ⟨b, off, none⟩) NF cap] 25)).alloc (.cells #[.string g.name, .int .i64 g.params, .int .i64 g.locals, .slice (some ⟨hb1, ho1, none⟩) N c1, .slice a2 0 c2] 34) = W) := ⟨_, hide rfl⟩
    have HBF : Hid (W2.heap[q]? = some (.cells #[.string g.name, .int .i64 g.params, .int .i64 g.locals, .slice (some ⟨hb1, ho1, none⟩) N c1, .slice a2 0 c2] 34)) := by
      unfold Hid
      rw [← unhide hW2, ← unhide hq]
      have := heap_alloc_new (w.alloc (.cells #[.slice ca p.consts.length cc, .slice (some ⟨b, off, none⟩) NF cap] 25)) (.cells #[.string g.name, .int .i64 g.params, .int .i64 g.locals, .slice (some ⟨hb1, ho1, none⟩) N c1, .slice a2 0 c2] 34)
      simpa only [World.size_alloc] using this
    have HW2 : Hid (Below w.heap.size w W2) := by rw [← unhide hW2]; exact unhide HB2 _ _
    have HGO : Hid (∀ i, i < L → ∃ z, g.code[i]? = some z ∧ w.cell? ⟨hb1, ho1 + i * 2, none⟩ = some (.int .i64 z.1) ∧ w.cell? ⟨hb1, ho1 + i * 2 + 1, none⟩ = some (.int .i64 z.2)) := fun i hi => by
      obtain ⟨z, hz⟩ : ∃ z, g.code[i]? = some z := ⟨_, List.getElem?_eq_getElem (by rw [unhide hNs, unhide hL]; omega)⟩
      obtain ⟨b', o', c', eh, _, _, _, hcs⟩ := unhide HEL i z hz
      cases eh
      exact ⟨z, hz, hcs 0 _ rfl, hcs 1 _ rfl⟩
    rw [unhide hW2, unhide hq]
    clear HEL g0 g1 g2 g3 g4 y0
    go_loopg [7] L (fun gg t wr => ∃ (i : Nat), Hid (i + gg = L) ∧ t = .int .i64 (i : Int) ∧ Hid (Below W2.heap.size W2 wr ∧ goB (g.code.take i) = true))
    case atStart => exact ⟨0, by unfold Hid; omega, rfl, Below.refl _ _, rfl⟩
    case round =>
      obtain ⟨i, hi, rfl, hG⟩ := hrel
      have bw := (unhide hG).1
      have HBW := hide ((unhide HW2).trans (bw.mono (unhide HW2).size))
      by_cases hlt : i < L
      · obtain ⟨z, hz, z0, z1⟩ := unhide HGO i hlt
        have e0 : wr.cell? ⟨hb1, ho1 + i * 2, none⟩ = some (.int .i64 z.1) := ((unhide HBW).cell (p := ⟨hb1, _, none⟩) hbl).trans z0
        have e1 : wr.cell? ⟨hb1, ho1 + i * 2 + 1, none⟩ = some (.int .i64 z.2) := ((unhide HBW).cell (p := ⟨hb1, _, none⟩) hbl).trans z1
        have hbl3 := Nat.lt_of_lt_of_le hbl (unhide HBW).size
        have j0 : (0 : Int) ≤ (i : Int) := by omega
        have j1 : (i : Int) < (L : Int) := by omega
        have j2 : (i : Int) < (N : Int) := by have := unhide hL; omega
        obtain ⟨d1, _, l3⟩ := blk_cells (blkT (unhide HBF) bw)
        have f3 := d1 3
        have HNO : Hid (stB z.1 = false → an = false) := fun h => (unhide HED2).trans (goB_no hz hlt h)
        have HYE : Hid (stB z.1 = true → goB (g.code.take (i + 1)) = true) := fun h => goB_more hz h (unhide hG).2
        have HAL : Hid (∀ o, Below W2.heap.size W2 (wr.alloc o)) := fun o => bw.alloc bw.size o
        have HAW : Hid (∀ o, Below w.heap.size w (wr.alloc o)) := fun o => (unhide HBW).alloc (unhide HBW).size o
        have HB0 := hide bw
        clear hG bw hz z0 z1 d1 HGO
        have HC := hide (fun (Y : World) => rap_any Y z.1)
        obtain ⟨o, ho⟩ : ∃ o, Hid (z.1 = o) := ⟨_, hide rfl⟩
        rw [unhide ho] at e0 HC HNO HYE
        by_cases q1 : 0 ≤ o ∧ o ≤ 11
        · obtain ⟨q2, q3⟩ := q1
          have HY := hide (unhide HYE (by unfold stB; rw [decide_eq_true (⟨q2, q3⟩ : 0 ≤ o ∧ o ≤ 11)]; rfl))
          have r2 : decide (0 ≤ o) = true := decide_eq_true q2
          have r3 : decide (o ≤ 11) = true := decide_eq_true q3
          clear q2 q3
          go_wp2_with fail
          go_roundg (gk - 1)
          case measure => have := unhide hi; omega
          case rel => exact ⟨i + 1, by have := unhide hi; unfold Hid; omega, by go_num, unhide HB0, unhide HY⟩
        · have HE : Hid (stB o = (decide (o = 58) || decide (o = 59) || apB o)) := by unfold Hid stB; rw [decide_eq_false q1]; rfl
          have HP : Hid (decide (0 ≤ o) = false ∨ (decide (0 ≤ o) = true ∧ decide (o ≤ 11) = false)) := by
            by_cases q2 : 0 ≤ o
            · exact .inr ⟨decide_eq_true q2, decide_eq_false (fun q3 => q1 ⟨q2, q3⟩)⟩
            · exact .inl (decide_eq_false q2)
          clear q1
          cases hs : apB o with
          | true =>
            have HY := hide (unhide HYE (by rw [unhide HE, hs]; simp))
            have HS := hide hs
            clear hs
            rcases unhide HP with r2 | ⟨r2, r3⟩
            · go_wp2_with fail
              refine (unhide HC _).mono ?_
              rintro e w1 ⟨rfl, rfl⟩
              rw [unhide HS]
              go_wp2_with fail
              go_roundg (gk - 1)
              case measure => have := unhide hi; omega
              case rel => exact ⟨i + 1, by have := unhide hi; unfold Hid; omega, by go_num, unhide HB0, unhide HY⟩
            · go_wp2_with fail
              refine (unhide HC _).mono ?_
              rintro e w1 ⟨rfl, rfl⟩
              rw [unhide HS]
              go_wp2_with fail
              go_roundg (gk - 1)
              case measure => have := unhide hi; omega
              case rel => exact ⟨i + 1, by have := unhide hi; unfold Hid; omega, by go_num, unhide HB0, unhide HY⟩
          | false =>
            rw [hs] at HE
            have HS := hide hs
            clear hs
            by_cases o1 : o = 58
            · subst o1
              have HY := hide (unhide HYE (by rw [unhide HE]; rfl))
              rcases unhide HP with r2 | ⟨r2, r3⟩
              · go_wp2_with fail
                refine (unhide HC _).mono ?_
                rintro e w1 ⟨rfl, rfl⟩
                rw [unhide HS]
                go_wp2_with fail
                go_roundg (gk - 1)
                case measure => have := unhide hi; omega
                case rel => exact ⟨i + 1, by have := unhide hi; unfold Hid; omega, by go_num, unhide HB0, unhide HY⟩
              · go_wp2_with fail
                refine (unhide HC _).mono ?_
                rintro e w1 ⟨rfl, rfl⟩
                rw [unhide HS]
                go_wp2_with fail
                go_roundg (gk - 1)
                case measure => have := unhide hi; omega
                case rel => exact ⟨i + 1, by have := unhide hi; unfold Hid; omega, by go_num, unhide HB0, unhide HY⟩
            by_cases o2 : o = 59
            · subst o2
              have HY := hide (unhide HYE (by rw [unhide HE]; rfl))
              rcases unhide HP with r2 | ⟨r2, r3⟩
              · go_wp2_with fail
                refine (unhide HC _).mono ?_
                rintro e w1 ⟨rfl, rfl⟩
                rw [unhide HS]
                go_wp2_with fail
                go_roundg (gk - 1)
                case measure => have := unhide hi; omega
                case rel => exact ⟨i + 1, by have := unhide hi; unfold Hid; omega, by go_num, unhide HB0, unhide HY⟩
              · go_wp2_with fail
                refine (unhide HC _).mono ?_
                rintro e w1 ⟨rfl, rfl⟩
                rw [unhide HS]
                go_wp2_with fail
                go_roundg (gk - 1)
                case measure => have := unhide hi; omega
                case rel => exact ⟨i + 1, by have := unhide hi; unfold Hid; omega, by go_num, unhide HB0, unhide HY⟩
            have HA := hide (unhide HNO (by rw [unhide HE, decide_eq_false o1, decide_eq_false o2]; rfl))
            have s1 : (o != 58) = true := by simpa using o1
            have s2 : (o != 59) = true := by simpa using o2
            clear o1 o2
            rcases unhide HP with r2 | ⟨r2, r3⟩
            · go_wp2_with fail
              refine (unhide HC _).mono ?_
              rintro e w1 ⟨rfl, rfl⟩
              rw [unhide HS]
              go_wp2_with fail
              go_ret
              rw [unhide HA]
              exact ⟨rfl, unhide HBW⟩
            · go_wp2_with fail
              refine (unhide HC _).mono ?_
              rintro e w1 ⟨rfl, rfl⟩
              rw [unhide HS]
              go_wp2_with fail
              go_ret
              rw [unhide HA]
              exact ⟨rfl, unhide HBW⟩
      · have hi0 : i = L ∧ gk = 0 := by have := unhide hi; omega
        obtain ⟨rfl, rfl⟩ := hi0
        have HA : Hid (an = true) := (unhide HED2).trans (unhide hG).2
        obtain ⟨d1, _, l3⟩ := blk_cells (blkT (unhide HBF) bw)
        have f3 := d1 3
        clear hG bw d1 HGO
        go_wp2_with fail
        go_ret
        rw [unhide HA]
        exact ⟨rfl, unhide HBW⟩
end Go.Proofs.Ytnefmfnchimppaa
