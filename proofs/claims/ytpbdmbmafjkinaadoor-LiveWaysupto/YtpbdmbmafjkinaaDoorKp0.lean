/-
  What of a block's instructions is kept: the memory.
-/
import Derived.Test.YtpbdmbmafjkinaaDoorGb
import Derived.Test.YtpbdmbmafjkinaaDoorPri
import Derived.OwnWalkIn
import Derived.RangeFuncCalls
import Derived.Deep.RegionHeld3
import Derived.Test.YtpbdmbmafjkinaaDoorLt
import Derived.Test.YtpbdmbmafjkinaaDoorRn
import Derived.Test.YtpbdmbmafjkinaaDoorLd0
namespace Go.Proofs.YtpbdmbmafjkinaaDoor
open Go.RowKit
set_option linter.unusedVariables false
set_option linter.unusedSimpArgs false
/-- Behind i swaps. -/
def rvK (rs : List InR) (i : Nat) : List InR := (List.range rs.length).map (fun x => if x < i ∨ rs.length - 1 - x < i then rs.getD (rs.length - 1 - x) ir0 else rs.getD x ir0)
theorem own_eq2 {b off n c k : Nat} (h : (Value.slice (some ⟨b, off, none⟩) n c).ownBlock = some k) : b = k := by cases h; rfl
theorem rvK_len (rs : List InR) (i : Nat) : (rvK rs i).length = rs.length := by simp [rvK]
theorem rvK_at (rs : List InR) (i : Nat) {x : Nat} (hx : x < rs.length) : (rvK rs i)[x]? = some (if x < i ∨ rs.length - 1 - x < i then rs.getD (rs.length - 1 - x) ir0 else rs.getD x ir0) := by simp [rvK, hx]
theorem rvK_zero (rs : List InR) : rvK rs 0 = rs := by
  refine List.ext_getElem? (fun x => ?_)
  by_cases hx : x < rs.length
  · rw [rvK_at rs 0 hx, if_neg (by omega), List.getD_eq_getElem?_getD, List.getElem?_eq_getElem hx]; rfl
  · rw [List.getElem?_eq_none (by rw [rvK_len]; omega), List.getElem?_eq_none (by omega)]
theorem rvK_end (rs : List InR) {i : Nat} (hi : rs.length ≤ 2 * i + 1) : rvK rs i = rs.reverse := by
  refine List.ext_getElem? (fun x => ?_)
  by_cases hx : x < rs.length
  · rw [rvK_at rs i hx, List.getElem?_reverse hx]
    by_cases h : x < i ∨ rs.length - 1 - x < i
    · rw [if_pos h, List.getD_eq_getElem?_getD, List.getElem?_eq_getElem (by omega)]; rfl
    · rw [if_neg h, List.getD_eq_getElem?_getD, show rs.length - 1 - x = x by omega, List.getElem?_eq_getElem hx]; rfl
  · rw [List.getElem?_eq_none (by rw [rvK_len]; omega), List.getElem?_eq_none (by simp; omega)]
theorem rvK_swap (rs : List InR) {i j : Nat} {x y : InR} (hj : i + j + 1 = rs.length) (hij : i < j) (hx : rs[i]? = some x) (hy : rs[j]? = some y) : ((rvK rs i).set i y).set j x = rvK rs (i + 1) := by
  refine List.ext_getElem? (fun z => ?_)
  by_cases hz : z < rs.length
  · rw [rvK_at rs (i + 1) hz]
    by_cases h1 : z = j
    · subst h1
      rw [List.getElem?_set_self (by simp [rvK_len]; exact hz), if_pos (by omega), List.getD_eq_getElem?_getD, show rs.length - 1 - z = i by omega, hx]; rfl
    · rw [List.getElem?_set_ne (fun q => h1 q.symm)]
      by_cases h2 : z = i
      · subst h2
        rw [List.getElem?_set_self (by rw [rvK_len]; exact hz), if_pos (by omega), List.getD_eq_getElem?_getD, show rs.length - 1 - z = j by omega, hy]; rfl
      · rw [List.getElem?_set_ne (fun q => h2 q.symm), rvK_at rs i hz]
        have e : (z < i ∨ rs.length - 1 - z < i) = (z < i + 1 ∨ rs.length - 1 - z < i + 1) := by apply propext; omega
        simp only [e]
  · rw [List.getElem?_eq_none (by simp [rvK_len]; omega), List.getElem?_eq_none (by rw [rvK_len]; omega)]
theorem rvK_i (rs : List InR) {i j : Nat} {x : InR} (hj : i + j + 1 = rs.length) (hij : i < j) (hx : rs[i]? = some x) : (rvK rs i)[i]? = some x := by
  rw [rvK_at rs i (by omega), if_neg (by omega), List.getD_eq_getElem?_getD, hx]; rfl
theorem rvK_j (rs : List InR) {i j : Nat} {y : InR} (hj : i + j + 1 = rs.length) (hij : i < j) (hy : rs[j]? = some y) : (rvK rs i)[j]? = some y := by
  rw [rvK_at rs i (by omega), if_neg (by omega), List.getD_eq_getElem?_getD, hy]; rfl
theorem Ro.at8 {X : World} {g off N cap : Nat} {l : List InR} (h : Ro X 8 (.slice (some ⟨g, off, none⟩) N cap) N (flt enIn l)) (hl : l.length = N) {i : Nat} {r : InR} (hr : l[i]? = some r) : g < X.heap.size ∧ X.cell? ⟨g, off + i * 8, none⟩ = some (.int .i64 r.op) ∧ X.cell? ⟨g, off + i * 8 + 1, none⟩ = some (.int .i64 r.code) ∧ X.cell? ⟨g, off + i * 8 + 2, none⟩ = some (.int .i64 r.dst) ∧ X.cell? ⟨g, off + i * 8 + 3, none⟩ = some r.av ∧ X.cell? ⟨g, off + i * 8 + 4, none⟩ = some (.int .i64 r.n) ∧ X.cell? ⟨g, off + i * 8 + 5, none⟩ = some (.int .i64 r.pc) ∧ X.cell? ⟨g, off + i * 8 + 6, none⟩ = some (.int .i64 r.need) ∧ X.cell? ⟨g, off + i * 8 + 7, none⟩ = some r.ev := by
  subst hl
  obtain ⟨b', off', c', e, _, _, hb, hc⟩ := (Rx.of_ro h).elem zIn hr
  cases e
  exact ⟨hb, hc 0 _ rfl, hc 1 _ rfl, hc 2 _ rfl, hc 3 _ rfl, hc 4 _ rfl, hc 5 _ rfl, hc 6 _ rfl, hc 7 _ rfl⟩
theorem Ro.put8 {X : World} {g off N cap : Nat} {l : List InR} (h : Ro X 8 (.slice (some ⟨g, off, none⟩) N cap) N (flt enIn l)) (hl : l.length = N) {i : Nat} (hi : i < N) (r : InR) : Ro ((((((((X.setCell ⟨g, off + i * 8, none⟩ (.int .i64 r.op)).setCell ⟨g, off + i * 8 + 1, none⟩ (.int .i64 r.code)).setCell ⟨g, off + i * 8 + 2, none⟩ (.int .i64 r.dst)).setCell ⟨g, off + i * 8 + 3, none⟩ r.av).setCell ⟨g, off + i * 8 + 4, none⟩ (.int .i64 r.n)).setCell ⟨g, off + i * 8 + 5, none⟩ (.int .i64 r.pc)).setCell ⟨g, off + i * 8 + 6, none⟩ (.int .i64 r.need)).setCell ⟨g, off + i * 8 + 7, none⟩ r.ev) 8 (.slice (some ⟨g, off, none⟩) N cap) N (flt enIn (l.set i r)) ∧ Fr (fun b => b = g) X ((((((((X.setCell ⟨g, off + i * 8, none⟩ (.int .i64 r.op)).setCell ⟨g, off + i * 8 + 1, none⟩ (.int .i64 r.code)).setCell ⟨g, off + i * 8 + 2, none⟩ (.int .i64 r.dst)).setCell ⟨g, off + i * 8 + 3, none⟩ r.av).setCell ⟨g, off + i * 8 + 4, none⟩ (.int .i64 r.n)).setCell ⟨g, off + i * 8 + 5, none⟩ (.int .i64 r.pc)).setCell ⟨g, off + i * 8 + 6, none⟩ (.int .i64 r.need)).setCell ⟨g, off + i * 8 + 7, none⟩ r.ev) := by
  have h1 := h.putAt zIn hl rfl hi r
  have e2 : X.setCells g (off + i * 8) (enIn r) = ((((((((X.setCell ⟨g, off + i * 8, none⟩ (.int .i64 r.op)).setCell ⟨g, off + i * 8 + 1, none⟩ (.int .i64 r.code)).setCell ⟨g, off + i * 8 + 2, none⟩ (.int .i64 r.dst)).setCell ⟨g, off + i * 8 + 3, none⟩ r.av).setCell ⟨g, off + i * 8 + 4, none⟩ (.int .i64 r.n)).setCell ⟨g, off + i * 8 + 5, none⟩ (.int .i64 r.pc)).setCell ⟨g, off + i * 8 + 6, none⟩ (.int .i64 r.need)).setCell ⟨g, off + i * 8 + 7, none⟩ r.ev) := by simp only [enIn, World.setCells, Nat.add_assoc, Nat.reduceAdd]
  rw [e2] at h1
  exact h1
set_option maxRecDepth 100000 in
set_option maxHeartbeats 6400000 in
theorem reverse_any {w : World} {v : Value} {rs : List InR} (h : Ro w 8 v rs.length (flt enIn rs)) (hs : ∀ r ∈ rs, (∃ a n c, r.av = .slice a n c) ∧ ∃ a n c, r.ev = .slice a n c) (hN : rs.length ≤ 1048576) :
    Calls Tryd.prog 55 #[v] w fun e w' => (∃ v, e = .returned v) ∧ Ro w' 8 v rs.length (flt enIn rs.reverse) ∧ Fr (fun k => v.ownBlock = some k) w w' := by
  obtain ⟨va, cap, rfl, hc1, hc2⟩ := h.shape
  have HS := hide hs
  obtain ⟨N, hNN⟩ : ∃ z, Hid (rs.length = z) := ⟨_, hide rfl⟩
  have HR : Hid (Ro w 8 (.slice va N cap) N (flt enIn (rvK rs 0)) ∧ Fr (fun k => (Value.slice va N cap).ownBlock = some k) w w) := ⟨by rw [rvK_zero, ← unhide hNN]; exact h, Fr.refl _ _⟩
  rw [unhide hNN] at hN hc1 ⊢
  unfold maxLen at hc2
  clear h hs
  have hw1 : IntKind.i64.wrap ((N : Int) - 1) = (N : Int) - 1 := by go_arith
  go_enter Tryd.func55, Tryd.ntmps55
  go_wp2_with fail
  go_loopg [2, 3] N (fun gg t2 t3 wr => ∃ i : Nat, Hid (i + gg = N) ∧ t2 = .int .i64 (i : Int) ∧ t3 = .int .i64 ((N : Int) - 1 - (i : Int)) ∧ Hid (Ro wr 8 (.slice va N cap) N (flt enIn (rvK rs i)) ∧ Fr (fun k => (Value.slice va N cap).ownBlock = some k) w wr))
  case atStart => exact ⟨0, by unfold Hid; omega, rfl, by simp, HR⟩
  case round =>
    clear HR
    obtain ⟨i, hi, rfl, rfl, hG⟩ := hrel
    by_cases hij : 2 * i + 1 < N
    · obtain ⟨j, hj⟩ : ∃ j : Nat, Hid (i + j + 1 = N) := ⟨N - 1 - i, by unfold Hid; omega⟩
      have hj' := unhide hj
      have hij2 : i < j := by omega
      have ej : (N : Int) - 1 - (i : Int) = (j : Int) := by omega
      rw [ej]
      obtain ⟨x, hx⟩ : ∃ x, rs[i]? = some x := ⟨_, List.getElem?_eq_getElem (by rw [unhide hNN]; omega)⟩
      obtain ⟨y, hy⟩ : ∃ y, rs[j]? = some y := ⟨_, List.getElem?_eq_getElem (by rw [unhide hNN]; omega)⟩
      obtain ⟨g, off, cap2, ev, _, _, hgl, _⟩ := (unhide hG).1.full (by omega)
      cases ev
      obtain ⟨⟨xa, xn, xc, ex1⟩, xd, xm, xe, ex2⟩ := unhide HS x (List.mem_of_getElem? hx)
      obtain ⟨⟨ya, yn, yc, ey1⟩, yd, ym, ye, ey2⟩ := unhide HS y (List.mem_of_getElem? hy)
      obtain ⟨xop, xcode, xdst, xav, xn2, xpc, xneed, xev⟩ := x
      obtain ⟨yop, ycode, ydst, yav, yn2, ypc, yneed, yev⟩ := y
      simp only at ex1 ex2 ey1 ey2
      subst ex1 ex2 ey1 ey2
      have i0 : (0 : Int) ≤ (i : Int) := by omega
      have i1 : (i : Int) < (j : Int) := by omega
      have i2 : (i : Int) < (N : Int) := by omega
      have j0 : (0 : Int) ≤ (j : Int) := by omega
      have j1 : (j : Int) < (N : Int) := by omega
      have hl := (rvK_len rs i).trans (unhide hNN)
      have HSW := hide (rvK_swap rs (by rw [unhide hNN]; exact hj') hij2 hx hy)
      have HXI := hide (rvK_i rs (by rw [unhide hNN]; exact hj') hij2 hx)
      have HYJ := hide (rvK_j rs (by rw [unhide hNN]; exact hj') hij2 hy)
      have HL := hide hl
      obtain ⟨ob, hob⟩ : ∃ o, Hid (wr.heap[g]? = o) := ⟨_, hide rfl⟩
      have HRO : Hid (∀ V : World, V.heap[g]? = ob → Ro V 8 (.slice (some ⟨g, off, none⟩) N cap) N (flt enIn (rvK rs i))) := fun V hV => (unhide hG).1.keep (fun z hz => by have := own_eq2 hz; subst this; exact hV.trans (unhide hob).symm)
      have HCY := hide (fun (V : World) (hV : V.heap[g]? = ob) => (unhide HRO V hV).at8 (unhide HL) (unhide HYJ))
      have HCX := hide (fun (V : World) (hV : V.heap[g]? = ob) => (unhide HRO V hV).at8 (unhide HL) (unhide HXI))
      obtain ⟨W0, hW0⟩ : ∃ W0, Hid (wr.drew = W0) := ⟨_, hide rfl⟩
      have HS0 : Hid (W0.heap[g]? = ob) := by rw [← unhide hW0]; exact unhide hob
      clear hx hy hl ej hw1
      go_wp2_with fail
      refine wp_region_later (S := (fun V => V.heap[g]? = ob)) (m := 13) (by kernel_rfl) ?_
      rw [unhide hW0]
      refine wpAnyL_takeU (i := 0) (oi := _) (v := .slice (some ⟨g, off, none⟩) N cap) rfl (by kernel_rfl) (by kernel_rfl) (by kernel_rfl) (by decide) (fun _ _ _ h => h) (Or.inl ⟨by rfl, (by intro w' _; go_simp)⟩) (fun _ => unhide HS0) ?_
      go_simp
      refine wpAnyL_takeU (i := 1) (oi := _) (v := .int .i64 (i : Int)) rfl (by kernel_rfl) (by kernel_rfl) (by kernel_rfl) (by decide) (fun _ _ _ h => h) (Or.inl ⟨by rfl, (by intro w' _; go_simp)⟩) (fun _ => unhide HS0) ?_
      go_simp
      refine wpAnyL_takeU (i := 2) (oi := _) (v := .slice (some ⟨g, off, none⟩) N cap) rfl (by kernel_rfl) (by kernel_rfl) (by kernel_rfl) (by decide) (fun _ _ _ h => h) (Or.inl ⟨by rfl, (by intro w' _; go_simp)⟩) (fun _ => unhide HS0) ?_
      go_simp
      refine wpAnyL_takeU (i := 3) (oi := _) (v := .int .i64 (j : Int)) rfl (by kernel_rfl) (by kernel_rfl) (by kernel_rfl) (by decide) (fun _ _ _ h => h) (Or.inl ⟨by rfl, (by intro w' _; go_simp)⟩) (fun _ => unhide HS0) ?_
      go_simp
      refine wpAnyL_takeU (i := 4) (oi := _) (v := .slice (some ⟨g, off, none⟩) N cap) rfl (by kernel_rfl) (by kernel_rfl) (by kernel_rfl) (by decide) (fun _ _ _ h => h) (Or.inl ⟨by rfl, (by intro w' _; go_simp)⟩) (fun _ => unhide HS0) ?_
      go_simp
      refine wpAnyL_takeU (i := 5) (oi := _) (v := .int .i64 (j : Int)) rfl (by kernel_rfl) (by kernel_rfl) (by kernel_rfl) (by decide) (fun _ _ _ h => h) (Or.inl ⟨by rfl, (by intro w' _; go_simp)⟩) (fun _ => unhide HS0) ?_
      go_simp
      refine wpAnyL_takeU (i := 6) (oi := _) (v := .pointer (some ⟨g, off + j * 8, none⟩)) rfl (by kernel_rfl) (by kernel_rfl) (by kernel_rfl) (by decide) (fun _ _ _ h => h) (Or.inl ⟨by rfl, (by intro w' _; go_simp)⟩) (fun _ => unhide HS0) ?_
      go_simp
      refine wpAnyL_take (i := 7) (oi := _) (om := _) (v := .agg #[.int .i64 yop, .int .i64 ycode, .int .i64 ydst, .slice ya yn yc, .int .i64 yn2, .int .i64 ypc, .int .i64 yneed, .slice yd ym ye]) rfl rfl (by kernel_rfl) (by kernel_rfl) (by kernel_rfl) (by kernel_rfl) (by decide) (by kernel_rfl) (fun _ _ _ h => h) (Or.inl ⟨by rfl, (by intro w' hSw; obtain ⟨el, a0, a1, a2, a3, a4, a5, a6, a7⟩ := unhide HCY w' hSw; go_simp)⟩) (unhide HS0) ?_
      go_simp
      refine wpAnyL_takeU (i := 8) (oi := _) (v := .slice (some ⟨g, off, none⟩) N cap) rfl (by kernel_rfl) (by kernel_rfl) (by kernel_rfl) (by decide) (fun _ _ _ h => h) (Or.inl ⟨by rfl, (by intro w' _; go_simp)⟩) (fun _ => unhide HS0) ?_
      go_simp
      refine wpAnyL_takeU (i := 9) (oi := _) (v := .int .i64 (i : Int)) rfl (by kernel_rfl) (by kernel_rfl) (by kernel_rfl) (by decide) (fun _ _ _ h => h) (Or.inl ⟨by rfl, (by intro w' _; go_simp)⟩) (fun _ => unhide HS0) ?_
      go_simp
      refine wpAnyL_takeU (i := 10) (oi := _) (v := .pointer (some ⟨g, off + i * 8, none⟩)) rfl (by kernel_rfl) (by kernel_rfl) (by kernel_rfl) (by decide) (fun _ _ _ h => h) (Or.inl ⟨by rfl, (by intro w' _; go_simp)⟩) (fun _ => unhide HS0) ?_
      go_simp
      refine wpAnyL_take (i := 11) (oi := _) (om := _) (v := .agg #[.int .i64 xop, .int .i64 xcode, .int .i64 xdst, .slice xa xn xc, .int .i64 xn2, .int .i64 xpc, .int .i64 xneed, .slice xd xm xe]) rfl rfl (by kernel_rfl) (by kernel_rfl) (by kernel_rfl) (by kernel_rfl) (by decide) (by kernel_rfl) (fun _ _ _ h => h) (Or.inl ⟨by rfl, (by intro w' hSw; obtain ⟨el, a0, a1, a2, a3, a4, a5, a6, a7⟩ := unhide HCX w' hSw; go_simp)⟩) (unhide HS0) ?_
      go_simp
      refine wpAnyL_takeU (i := 12) (oi := _) (v := .pointer (some ⟨g, off + i * 8, none⟩)) rfl (by kernel_rfl) (by kernel_rfl) (by kernel_rfl) (by decide) (fun _ _ _ h => h) (Or.inl ⟨by rfl, (by intro w' _; go_simp)⟩) (fun _ => unhide HS0) ?_
      go_simp
      obtain ⟨el, a0, a1, a2, a3, a4, a5, a6, a7⟩ := unhide HCX W0 (unhide HS0)
      have f0 : W0.frozen? ⟨g, off + i * 8, none⟩ = false := (unhide HRO W0 (unhide HS0)).free rfl _
      have f1 : W0.frozen? ⟨g, off + i * 8 + 1, none⟩ = false := (unhide HRO W0 (unhide HS0)).free rfl _
      have f2 : W0.frozen? ⟨g, off + i * 8 + 2, none⟩ = false := (unhide HRO W0 (unhide HS0)).free rfl _
      have f3 : W0.frozen? ⟨g, off + i * 8 + 3, none⟩ = false := (unhide HRO W0 (unhide HS0)).free rfl _
      have f4 : W0.frozen? ⟨g, off + i * 8 + 4, none⟩ = false := (unhide HRO W0 (unhide HS0)).free rfl _
      have f5 : W0.frozen? ⟨g, off + i * 8 + 5, none⟩ = false := (unhide HRO W0 (unhide HS0)).free rfl _
      have f6 : W0.frozen? ⟨g, off + i * 8 + 6, none⟩ = false := (unhide HRO W0 (unhide HS0)).free rfl _
      have f7 : W0.frozen? ⟨g, off + i * 8 + 7, none⟩ = false := (unhide HRO W0 (unhide HS0)).free rfl _
      refine wpAnyL_one (i := 13) (o := _) (by kernel_rfl) rfl (fun K hK => ?_)
      go_simp
      have hp1 := (unhide HRO W0 (unhide HS0)).put8 (unhide HL) (i := i) (by omega) ⟨yop, ycode, ydst, .slice ya yn yc, yn2, ypc, yneed, .slice yd ym ye⟩
      simp only at hp1
      obtain ⟨W1, hW1⟩ : ∃ W1, Hid (((((((((W0.setCell ⟨g, off + i * 8, none⟩ (.int .i64 yop)).setCell ⟨g, off + i * 8 + 1, none⟩ (.int .i64 ycode)).setCell ⟨g, off + i * 8 + 2, none⟩ (.int .i64 ydst)).setCell ⟨g, off + i * 8 + 3, none⟩ (.slice ya yn yc)).setCell ⟨g, off + i * 8 + 4, none⟩ (.int .i64 yn2)).setCell ⟨g, off + i * 8 + 5, none⟩ (.int .i64 ypc)).setCell ⟨g, off + i * 8 + 6, none⟩ (.int .i64 yneed)).setCell ⟨g, off + i * 8 + 7, none⟩ (.slice yd ym ye)) = W1) := ⟨_, hide rfl⟩
      rw [unhide hW1] at hp1 ⊢
      refine hK _ _ (fun h => absurd h (by decide)) ?_
      clear hK K a0 a1 a2 a3 a4 a5 a6 a7 f0 f1 f2 f3 f4 f5 f6 f7 el
      have hyj2 : ((rvK rs i).set i ⟨yop, ycode, ydst, .slice ya yn yc, yn2, ypc, yneed, .slice yd ym ye⟩)[j]? = some ⟨yop, ycode, ydst, .slice ya yn yc, yn2, ypc, yneed, .slice yd ym ye⟩ := by rw [List.getElem?_set_ne (by omega)]; exact unhide HYJ
      obtain ⟨el, a0, a1, a2, a3, a4, a5, a6, a7⟩ := hp1.1.at8 (by rw [List.length_set]; exact unhide HL) hyj2
      have f0 : W1.frozen? ⟨g, off + j * 8, none⟩ = false := hp1.1.free rfl _
      have f1 : W1.frozen? ⟨g, off + j * 8 + 1, none⟩ = false := hp1.1.free rfl _
      have f2 : W1.frozen? ⟨g, off + j * 8 + 2, none⟩ = false := hp1.1.free rfl _
      have f3 : W1.frozen? ⟨g, off + j * 8 + 3, none⟩ = false := hp1.1.free rfl _
      have f4 : W1.frozen? ⟨g, off + j * 8 + 4, none⟩ = false := hp1.1.free rfl _
      have f5 : W1.frozen? ⟨g, off + j * 8 + 5, none⟩ = false := hp1.1.free rfl _
      have f6 : W1.frozen? ⟨g, off + j * 8 + 6, none⟩ = false := hp1.1.free rfl _
      have f7 : W1.frozen? ⟨g, off + j * 8 + 7, none⟩ = false := hp1.1.free rfl _
      refine wpAnyL_takeU (i := 14) (oi := _) (v := .pointer (some ⟨g, off + j * 8, none⟩)) rfl (by kernel_rfl) (by kernel_rfl) (by kernel_rfl) (by decide) (fun _ _ _ h => h) (Or.inl ⟨by rfl, (by intro w' _; go_simp)⟩) (fun h => absurd h (by decide)) ?_
      go_simp
      refine wpAnyL_one (i := 15) (o := _) (by kernel_rfl) rfl (fun K hK => ?_)
      go_simp
      have hp2 := hp1.1.put8 (by rw [List.length_set]; exact unhide HL) (i := j) (by omega) ⟨xop, xcode, xdst, .slice xa xn xc, xn2, xpc, xneed, .slice xd xm xe⟩
      simp only at hp2
      obtain ⟨W2, hW2⟩ : ∃ W2, Hid (((((((((W1.setCell ⟨g, off + j * 8, none⟩ (.int .i64 xop)).setCell ⟨g, off + j * 8 + 1, none⟩ (.int .i64 xcode)).setCell ⟨g, off + j * 8 + 2, none⟩ (.int .i64 xdst)).setCell ⟨g, off + j * 8 + 3, none⟩ (.slice xa xn xc)).setCell ⟨g, off + j * 8 + 4, none⟩ (.int .i64 xn2)).setCell ⟨g, off + j * 8 + 5, none⟩ (.int .i64 xpc)).setCell ⟨g, off + j * 8 + 6, none⟩ (.int .i64 xneed)).setCell ⟨g, off + j * 8 + 7, none⟩ (.slice xd xm xe)) = W2) := ⟨_, hide rfl⟩
      rw [unhide hW2] at hp2 ⊢
      refine hK _ _ (fun h => absurd h (by decide)) ?_
      refine wpAnyL_done (by kernel_rfl) ?_ _
      have HG2 : Hid (Ro W2 8 (.slice (some ⟨g, off, none⟩) N cap) N (flt enIn (rvK rs (i + 1))) ∧ Fr (fun k => (Value.slice (some ⟨g, off, none⟩) N cap).ownBlock = some k) w W2) := by
        refine ⟨by rw [← unhide HSW]; exact hp2.1, (unhide hG).2.trans ?_⟩
        have f1 : Fr (fun b => b = g) wr W2 := ((show Fr (fun b => b = g) wr W0 by rw [← unhide hW0]; exact (Fr.refl _ wr).drew).trans hp1.2).trans hp2.2
        exact f1.mono (fun k _ e => by subst e; rfl)
      clear hK K a0 a1 a2 a3 a4 a5 a6 a7 f0 f1 f2 f3 f4 f5 f6 f7 el hp1 hp2 hyj2 hG HRO HCY HCX HS0
      have wj1 : IntKind.i64.wrap ((j : Int) - 1) = (j : Int) - 1 := by go_arith
      go_wp2_with fail
      go_roundg (gk - 1)
      case measure => have := unhide hi; omega
      case rel => exact ⟨i + 1, by have := unhide hi; unfold Hid; omega, by go_num, by have : (j : Int) - 1 = (N : Int) - 1 - ((i + 1 : Nat) : Int) := by { omega }; rw [this], HG2⟩
    · have ge : ¬ (i : Int) < (N : Int) - 1 - (i : Int) := by omega
      go_wp2_with fail
      go_end0
      refine ⟨⟨_, rfl⟩, ?_, (unhide hG).2⟩
      have := (unhide hG).1
      rw [rvK_end rs (by rw [unhide hNN]; omega)] at this
      exact this

set_option linter.unusedVariables false
def noDefer (ops : List Oper) : Bool := ops.all fun o => match o.op with | .defer _ => false | _ => true
theorem noDefer_spec {ops : List Oper} (h : noDefer ops = true) {o : Oper} (ho : o ∈ ops) : ∀ c, o.op ≠ .defer c := fun c e => by
  have := List.all_eq_true.1 h o ho
  rw [e] at this
  cases this
theorem rows_wide {n : Nat} {P : Program} {row : String} {args : Array Value} {w : World} {R : Value → World → Prop} (h : Rows P row args w R) : RowsIn Fence.wide n P row args w R := by
  intro c cs _
  obtain ⟨v, w', r, s⟩ := h c cs
  exact ⟨v, w', r, stepsIn_wide.2 s⟩
theorem upon_round {l n : Nat} {P : Program} {o : Oper} {a : Act} {Q : Exit → Act → World → Prop} {K K' : Act → World → Prop} (hK : ∀ a w, K a w → K' a w) : ∀ {r : Result Next}, o.upon P a K Q r → o.uponIn (Fence.wide.inRound l) n P a K' Q r := fun {r} h => by
  have hm : o.uponIn Fence.wide n P a K' Q r := by
    revert h
    unfold Oper.upon Oper.uponIn
    split <;> intro h
    · exact hK _ _ h
    · exact hK _ _ h
    · exact hK _ _ h
    · refine ⟨(fun q => by cases q), (callsIn_wide.2 h).mono fun e w' k => ?_⟩
      cases e <;> first | exact hK _ _ k | exact k
    · exact ⟨(fun q => by cases q), (rows_wide h).mono fun v w' k => hK _ _ k⟩
    · exact h
    · exact h.elim
  exact hm
theorem ops_round {l n : Nat} {P : Program} {ops : Array Oper} {Q : Exit → Act → World → Prop} (hQ : ¬ LetsOut Q) (hnd : noDefer ops.toList = true) : ∀ (is : List Nat) (a : Act) (w : World), wpOps P ops Q is a w → wpOpsIn (Fence.wide.inRound l) n P ops Q is a w
  | [], a, w, h => h
  | i :: rest, a, w, h => by
    unfold wpOps at h
    unfold wpOpsIn
    cases ho : ops[i]? with
    | none => rw [ho] at h; exact ops_round hQ hnd rest a w h
    | some o =>
      rw [ho] at h
      simp only at h ⊢
      have hm : o ∈ ops.toList := Array.mem_toList_iff.2 (Array.mem_of_getElem? ho)
      split at h
      · rename_i hw
        rw [if_pos hw]
        rcases h with h | h
        · unfold Oper.wp at h
          unfold Oper.wpIn
          refine ⟨fun _ _ => trivial, ?_⟩
          rw [Oper.semAt_plain (Fence.wide.inRound l) _ _ (noDefer_spec hnd hm)]
          exact upon_round (fun a w => ops_round hQ hnd rest a w) h
        · exact absurd h.2 hQ
      · rename_i hw
        rw [if_neg hw]
        exact ⟨fun _ _ => trivial, ops_round hQ hnd rest _ _ h⟩
theorem wpIn_region_round {l n : Nat} {P : Program} {ops : Array Oper} {Q : Exit → Act → World → Prop} {S : World → Prop} {id : Nat} {a : Act} {w : World} (hQ : ¬ LetsOut Q) (hnd : noDefer ops.toList = true) (hm : P.follows .mixedOrders = true) (hS : S w.drew)
    (h : S w.drew → wpAnyH P .any ops Q S ops.size (Array.replicate ops.size false) a w.drew) : (Code.region id ops true).wpIn (Fence.wide.inRound l) n P Q a w := by
  refine wpIn_region_draw fun t => ops_round hQ hnd _ _ _ ?_
  simp only [Region.schedule, hm, Bool.true_or, if_true]
  exact wpAny_sound ops.size t _ a _ (wpAny_of_held _ _ _ _ (h hS))
theorem wpIn_region_roundL {l n m : Nat} {P : Program} {ops : Array Oper} {Q : Exit → Act → World → Prop} {S : World → Prop} {id : Nat} {a : Act} {w : World} (hQ : ¬ LetsOut Q) (hnd : noDefer ops.toList = true) (hm : P.follows .mixedOrders = true)
    (h : wpAnyL P .any ops Q S m ops.size (Array.replicate ops.size false) a w.drew) : (Code.region id ops true).wpIn (Fence.wide.inRound l) n P Q a w := by
  refine wpIn_region_draw fun t => ops_round hQ hnd _ _ _ ?_
  simp only [Region.schedule, hm, Bool.true_or, if_true]
  exact wpAny_sound ops.size t _ a _ (wpAny_of_L _ _ _ _ h)

set_option linter.unusedVariables false
set_option linter.unusedSimpArgs false
theorem wpListIn_appRun {F : Fence} {n : Nat} {w w' : World} {ops : Array Oper} {rest : List Oper} {o : Oper} {a : Act} {Q : Exit → Act → World → Prop} {v u v' : Value} {t : TypeId}
    (hg : o.guard = none) (s x : Operand) (hop : o.op = Op.call { callee := Callee.builtin Builtin.append, args := #[s, x], argTypes := #[t, t] }) (hs : a.eval s = v) (hx : a.eval x = u)
    (hrun : (Builtin.append_ #[t, t] o.type #[v, u]).run Tryd.prog w = .ok v' w') (hK : wpListIn F n Tryd.prog ops Q rest (a.put o.dst v') w') : wpListIn F n Tryd.prog ops Q (o :: rest) a w := by
  refine wpListIn_plain hg fun K hK' => ?_
  unfold Oper.wpIn
  refine ⟨?_, ?_⟩
  · simp [Oper.about, hop, resolve, Target.leads, Sem.run_pure]
  · rw [Oper.semAt_plain F _ _ (by rw [hop]; intro c hc'; cases hc')]
    simp [execOp, hop, resolve, invoke, builtin, hs, hx, hrun, Result.andThen]
    exact hK' _ _ hK
def KZ (w : World) (q : Nat) : Prop := w.heap.size < q ∧ q ≠ w.heap.size + 2 ∧ q ≠ w.heap.size + 3 ∧ q ≠ w.heap.size + 4 ∧ q ≠ w.heap.size + 5
/-- The new list while it grows, and the two boxes. -/
structure KO (w : World) (lv ov : Value) (us : List RIn) (ts : List TI) (X : World) : Prop where
  bel : Below w.heap.size w X
  bo : X.heap[w.heap.size + 2]? = some (.cells #[ov] 45)
  b1 : X.heap[w.heap.size + 3]? = some (.cells #[lv] 45)
  ow : OW enT 8 InT blT (KZ w) X ov us ts
section
variable {w X Y : World} {lv ov : Value} {us : List RIn} {ts : List TI}
theorem KO.frx {Q : Nat → Prop} (h : KO w lv ov us ts X) (f : Fr Q X Y) (hQ : ∀ z, z < X.heap.size → Q z → w.heap.size ≤ z ∧ z ≠ w.heap.size + 2 ∧ z ≠ w.heap.size + 3 ∧ ov.ownBlock ≠ some z ∧ ∀ y ∈ ts, ¬ blT y z) : KO w lv ov us ts Y := by
  have l2 := (Array.getElem?_eq_some_iff.1 h.bo).1
  have l3 := (Array.getElem?_eq_some_iff.1 h.b1).1
  refine ⟨h.bel.trans (f.below h.bel.size (fun k hk e => by have := hQ k (Nat.lt_of_lt_of_le hk h.bel.size) e; omega)), (f.block _ l2 (fun e => (hQ _ l2 e).2.1 rfl)).trans h.bo, (f.block _ l3 (fun e => (hQ _ l3 e).2.2.1 rfl)).trans h.b1, h.ow.fr stayT f (fun k hk hb e => ?_)⟩
  obtain ⟨_, _, _, q1, q2⟩ := hQ k hk e
  rcases hb with q | ⟨y, hy, q⟩
  · exact q1 q
  · exact q2 y hy q
theorem KO.on (h : KO w lv ov us ts X) (f : Below X.heap.size X Y) : KO w lv ov us ts Y :=
  h.frx (Fr.of_below (S := fun _ => False) f) (fun _ _ e => e.elim)
/-- The set's box and the loop's blocks may change. -/
theorem KO.frZ {Q : Nat → Prop} (h : KO w lv ov us ts X) (f : Fr Q X Y) (hQ : ∀ z, Q z → z = w.heap.size ∨ z = w.heap.size + 4 ∨ z = w.heap.size + 5) : KO w lv ov us ts Y :=
  h.frx f (fun z _ e => by
    have h1 := hQ z e
    have hz : ¬ KZ w z := fun q => by unfold KZ at q; omega
    exact ⟨by omega, by omega, by omega, fun q => hz (h.ow.rb z q), fun y hy q => hz (h.ow.in (.inr ⟨y, hy, q⟩)).1⟩)
theorem KO.app (h : KO w lv ov us ts X) {u : RIn} {t : TI} (hT : InT X u t) (hn : ∀ z, blT t z → KZ w z ∧ z < X.heap.size ∧ ov.ownBlock ≠ some z ∧ ∀ y ∈ ts, ¬ blT y z) (hl : us.length ≤ 1048576) (hz : w.heap.size + 5 < X.heap.size) :
    ∃ oa oc ya yc w1, ov = .slice oa us.length oc ∧ (Builtin.append_ #[45, 45] 45 #[ov, .slice (some ⟨X.heap.size, 0, none⟩) 1 1]).run Tryd.prog (X.alloc (.cells #[.int .i64 t.1.op, .int .i64 t.1.code, .int .i64 t.1.dst, t.1.av, .int .i64 t.1.n, .int .i64 t.1.pc, .int .i64 t.1.need, t.1.ev] 51)) = .ok (.slice ya (us.length + 1) yc) w1 ∧ w1.cell? ⟨w.heap.size + 2, 0, none⟩ = some ov ∧ w1.frozen? ⟨w.heap.size + 2, 0, none⟩ = false ∧ KO w lv (.slice ya (us.length + 1) yc) (us ++ [u]) (ts ++ [t]) (w1.setCell ⟨w.heap.size + 2, 0, none⟩ (.slice ya (us.length + 1) yc)) ∧ Fr (fun z => z = w.heap.size + 2 ∨ ov.ownBlock = some z) X (w1.setCell ⟨w.heap.size + 2, 0, none⟩ (.slice ya (us.length + 1) yc)) := by
  obtain ⟨oa, oc, ev, _, _⟩ := h.ow.row.shape
  have hB := box1n X (.cells #[.int .i64 t.1.op, .int .i64 t.1.code, .int .i64 t.1.dst, t.1.av, .int .i64 t.1.n, .int .i64 t.1.pc, .int .i64 t.1.need, t.1.ev] 51)
  have hY := h.on hB
  obtain ⟨i4, hi4, hz4, hs4, hb4⟩ := info_parts infIn
  have hav := one_sl (Rx.of_ro hT.a)
  have hev := one_sl (Rx.of_ro hT.e)
  obtain ⟨x', w1, hrun, r1, r2, r3⟩ := Ro.app (P := Tryd.prog) 45 45 51 i4 _ 8 96 Tryd.underlying45 hi4 hz4 hs4 hb4 rfl (by decide) hY.ow.row ⟨X.heap.size, 0, none⟩ 1 1 (enT t) rfl (new_cells X _ _) (by intro y hy; simp only [enT, enIn, List.mem_cons, List.not_mem_nil, or_false] at hy; rcases hy with rfl | rfl | rfl | rfl | rfl | rfl | rfl | rfl <;> first | rfl | assumption) (by omega) (by unfold maxLen; omega) (by omega)
  obtain ⟨ya, yc, rfl, _, _⟩ := r1.shape
  have hsz : (X.alloc (.cells #[.int .i64 t.1.op, .int .i64 t.1.code, .int .i64 t.1.dst, t.1.av, .int .i64 t.1.n, .int .i64 t.1.pc, .int .i64 t.1.need, t.1.ev] 51)).heap.size = X.heap.size + 1 := by simp
  obtain ⟨o1, o2⟩ := h.ow.push' stayT hT (fun z hb => ⟨(hn z hb).1, (hn z hb).2.1, (hn z hb).2.2.1⟩) (fun z hb y hy => (hn z hb).2.2.2 y hy) hB (by show KZ w _; unfold KZ; rw [hsz]; omega) r1 rfl r2 r3
  have hkz : ∀ z, ov.ownBlock = some z → KZ w z := fun z hz => h.ow.rb z hz
  have l2 := (Array.getElem?_eq_some_iff.1 h.bo).1
  have l3 := (Array.getElem?_eq_some_iff.1 h.b1).1
  have b2 : w1.heap[w.heap.size + 2]? = some (.cells #[ov] 45) := (o2.block _ l2 (fun e => by have := hkz _ e; unfold KZ at this; omega)).trans h.bo
  have b3 : w1.heap[w.heap.size + 3]? = some (.cells #[lv] 45) := (o2.block _ l3 (fun e => by have := hkz _ e; unfold KZ at this; omega)).trans h.b1
  have fs : Fr (fun z => z = w.heap.size + 2) w1 (w1.setCell ⟨w.heap.size + 2, 0, none⟩ (.slice ya (us.length + 1) yc)) := Fr.setCell (S := fun z => z = w.heap.size + 2) (Fr.refl _ w1) ⟨w.heap.size + 2, 0, none⟩ (.inr rfl) _
  have ft : Fr (fun z => z = w.heap.size + 2 ∨ ov.ownBlock = some z) X (w1.setCell ⟨w.heap.size + 2, 0, none⟩ (.slice ya (us.length + 1) yc)) := (o2.mono (fun _ _ e => .inr e)).trans (fs.mono (fun _ _ e => .inl e))
  refine ⟨oa, oc, ya, yc, w1, ev, hrun, by rw [(blk_cells b2).1 0]; rfl, (blk_cells b2).2.1 0, ⟨h.bel.trans (ft.below h.bel.size (fun z hz e => ?_)), ?_, ?_, o1.frZ stayT fs (fun z _ hz e => by unfold KZ at hz; omega)⟩, ft⟩
  · rcases e with e | e
    · omega
    · have := hkz _ e; unfold KZ at this; omega
  · exact setCell_block b2 _
  · rw [Below.heap_setCell _ _ _ _ (by show w.heap.size + 3 ≠ w.heap.size + 2; omega)]; exact b3
end
/-- Behind k rounds. -/
def KI (w : World) (Sx : Rset) (l : List RIn) (lv : Value) (k : Nat) (X : World) : Prop :=
  ∃ ov ts, KO w lv ov (kepL Sx (l.drop (l.length - k))).reverse ts X ∧ SB X w.heap.size (backL Sx (l.drop (l.length - k))) ∧ k ≤ l.length
theorem KI.frZ {w X Y : World} {Sx : Rset} {l : List RIn} {lv : Value} {k : Nat} {Q : Nat → Prop} (h : KI w Sx l lv k X) (f : Fr Q X Y) (hQ : ∀ z, Q z → z = w.heap.size + 4 ∨ z = w.heap.size + 5) : KI w Sx l lv k Y := by
  obtain ⟨ov, ts, h1, h2, h3⟩ := h
  exact ⟨ov, ts, h1.frZ f (fun z e => .inr (hQ z e)), h2.fr f (fun e => by have := hQ _ e; omega), h3⟩
theorem OW.rev {T U : Type} {en : T → List Value} {sz : Nat} {P : World → U → T → Prop} {bl : T → Nat → Prop} {Z : Nat → Prop} {w w' : World} {v : Value} {us : List U} {xs : List T} (hP : Stays P bl) (h : OW en sz P bl Z w v us xs) (f : Fr (fun k => v.ownBlock = some k) w w') (hr : Ro w' sz v us.length (flt en xs.reverse)) : OW en sz P bl Z w' v us.reverse xs.reverse := by
  have hl := h.len
  have key : ∀ {α : Type} (m : List α) (i : Nat) (x : α), m.reverse[i]? = some x → i < m.length ∧ m[m.length - 1 - i]? = some x := fun m i x hx => by
    have hi : i < m.length := by have := (List.getElem?_eq_some_iff.1 hx).1; simpa using this
    rw [List.getElem?_reverse hi] at hx
    exact ⟨hi, hx⟩
  refine ⟨by simp [hl], by rw [List.length_reverse]; exact hr, h.rb, fun i u x hu hx => ?_, fun i x k hx hk => ?_, fun i j x y k hij hx hy hk => ?_⟩
  · obtain ⟨h1, h2⟩ := key us i u hu
    obtain ⟨h3, h4⟩ := key xs i x hx
    rw [hl] at h4
    exact hP _ w w' u x (h.el _ u x h2 h4) f (fun k hk e => (h.eb _ x k h4 hk).2.2 e)
  · obtain ⟨h3, h4⟩ := key xs i x hx
    exact ⟨(h.eb _ x k h4 hk).1, Nat.lt_of_lt_of_le (h.eb _ x k h4 hk).2.1 f.size, (h.eb _ x k h4 hk).2.2⟩
  · obtain ⟨h1, h2⟩ := key xs i x hx
    obtain ⟨h3, h4⟩ := key xs j y hy
    exact h.ap _ _ x y k (by omega) h2 h4 hk
end Go.Proofs.YtpbdmbmafjkinaaDoor
