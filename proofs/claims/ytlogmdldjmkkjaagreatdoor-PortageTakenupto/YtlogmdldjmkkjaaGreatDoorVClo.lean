/-
  slices.Clone of handlers.
-/
import Derived.Test.YtlogmdldjmkkjaaGreatDoorPRow
import Derived.Laws.CopyOwn
import Derived.Deep.RegionHeld3
namespace Go.Proofs.YtlogmdldjmkkjaaGreatDoor
open Go.RowKit
set_option linter.unusedVariables false
set_option linter.unusedSimpArgs false
/-- A number as its cell. -/
def enN (x : Int) : List Value := [.int .i64 x]
theorem zN : ∀ p, (enN p).length = 1 := fun _ => rfl

theorem Tryz.info3 : (Tryz.prog.info? 3).map (fun i => (i.zero, i.size, i.bytes)) = some (some (.int .i64 0), 1, 8) := by kernel_rfl
/-- Numbers that can be read. -/
def Rn (w : World) (v : Value) (xs : List Int) : Prop := Rx w 1 v xs.length (flt enN xs)
theorem Rn.at {w : World} {v : Value} {xs : List Int} (h : Rn w v xs) {i : Nat} {x : Int} (hx : xs[i]? = some x) :
    ∃ b off cap, v = .slice (some ⟨b, off, none⟩) xs.length cap ∧ b < w.heap.size ∧ w.cell? ⟨b, off + i, none⟩ = some (.int .i64 x) := by
  obtain ⟨b, off, cap, e, _, _, hb, hc⟩ := Rx.elem zN h hx
  have := hc 0 _ rfl
  rw [Nat.mul_one, Nat.add_zero] at this
  exact ⟨b, off, cap, e, hb, this⟩
theorem Rn.shape {w : World} {v : Value} {xs : List Int} (h : Rn w v xs) : ∃ a cap, v = .slice a xs.length cap ∧ xs.length ≤ cap ∧ cap ≤ maxLen := by
  obtain ⟨_, a, cap, e, h1, h2, _⟩ := h
  exact ⟨a, cap, e, h1, h2⟩
theorem Rn.below {w w' : World} {v : Value} {xs : List Int} {B : Nat} (h : Rn w v xs) (f : Below B w w') (hB : w.heap.size ≤ B) : Rn w' v xs := Rx.below h f hB
theorem Rn.of_ro {w : World} {v : Value} {xs : List Int} (h : Ro w 1 v xs.length (flt enN xs)) : Rn w v xs := Rx.of_ro h
theorem Rn.drewN {w : World} {v : Value} {xs : List Int} (h : Rn w v xs) (k : Nat) : Rn (w.drewN k) v xs := Rx.fr (S := fun _ => False) h (Fr.drewN k) (fun _ _ e => e)
abbrev Gn (w : World) (xs : List Int) (v : Value) (wr : World) : Prop := Gx w 1 enN xs v wr

theorem wpList_appN {w : World} {ops : Array Oper} {rest : List Oper} {o : Oper} {a : Act} {Q : Exit → Act → World → Prop}
    (hg : o.guard = none) (s x : Operand) (hop : o.op = Op.call { callee := Callee.builtin Builtin.append, args := #[s, x], argTypes := #[55, 55] })
    (v : Value) (l : List Int) (hs : a.eval s = v) (hr : Ro w 1 v l.length (flt enN l)) (ad : Addr) (c : Nat) (k : Int) (hx : a.eval x = .slice (some ad) 1 c) (hc : ∀ j u, [Value.int .i64 k][j]? = some u → w.cell? (ad.add j) = some u)
    (hN : l.length < 17592186044416)
    (hK : ∀ v' w', Ro w' 1 v' (l.length + 1) (flt enN l ++ enN k) → w.grownBy w' v.ownBlock → (v'.ownBlock = v.ownBlock ∨ v'.ownBlock = some w.heap.size) → wpList Tryz.prog ops Q rest (a.put o.dst v') w') :
    wpList Tryz.prog ops Q (o :: rest) a w := by
  obtain ⟨i0, hi0, hz0, hz1, hz2⟩ := info_parts Tryz.info3
  exact wpList_app hg s x 55 hop 3 i0 _ 1 8 Tryz.underlying55 hi0 hz0 hz1 hz2 rfl (by decide) v l.length (flt enN l) hs hr ad 1 c [.int .i64 k] hx rfl hc (by simp [Value.oneCell']) (by omega) (by unfold maxLen; omega) (by omega) hK

set_option maxRecDepth 100000 in
set_option maxHeartbeats 3200000 in
theorem sameN_any {w : World} {u v : Value} {l : List Int} (hu : Rn w u l) (hv : Rn w v l) :
    Calls Tryz.prog 61 #[u, v] w fun e w' => e = .returned (.bool true) ∧ ∃ k, w' = w.drewN k := by
  have HU := hide (fun i p (hp : l[i]? = some p) => hu.at hp)
  have HV := hide (fun i p (hp : l[i]? = some p) => hv.at hp)
  obtain ⟨ua, uc, rfl, _, um⟩ := hu.shape
  obtain ⟨va, vc, rfl, _⟩ := hv.shape
  obtain ⟨L, hL⟩ : ∃ L, Hid (l.length = L) := ⟨_, rfl⟩
  have hLm : L ≤ maxLen := by rw [← unhide hL]; omega
  unfold maxLen at hLm
  rw [unhide hL] at HU HV ⊢
  clear hu hv um
  have d0 : (((L : Nat) : Int) != (L : Int)) = false := by simp
  go_enter Tryz.func61, Tryz.ntmps61
  go_wp2_with fail
  go_loopg [5] L (fun gg t5 wr => ∃ (i : Nat), Hid (i + gg = L) ∧ t5 = .int .i64 (i : Int) ∧ Hid (∃ k, wr = w.drewN k))
  case atStart => exact ⟨0, by unfold Hid; omega, rfl, 0, rfl⟩
  case round =>
    obtain ⟨i, hi, rfl, hB⟩ := hrel
    by_cases hlt : i < L
    · have hil : i < l.length := by rw [unhide hL]; exact hlt
      obtain ⟨p, hp⟩ : ∃ p, l[i]? = some p := ⟨_, List.getElem?_eq_getElem hil⟩
      obtain ⟨b, so, c', e, hb, c0⟩ := unhide HU i p hp
      cases e
      obtain ⟨g, off, cap, e, hg, q0⟩ := unhide HV i p hp
      cases e
      have fd : Fr (fun _ => False) w wr := by obtain ⟨k, e⟩ := unhide hB; rw [e]; exact Fr.drewN k
      have lb := Nat.lt_of_lt_of_le hb fd.size
      have lg := Nat.lt_of_lt_of_le hg fd.size
      have k0 := (fd.cell (a := ⟨b, so + i, none⟩) hb (fun e => e)).trans c0
      have r0 := (fd.cell (a := ⟨g, off + i, none⟩) hg (fun e => e)).trans q0
      have i0 : (0 : Int) ≤ (i : Int) := by omega
      have i1 : (i : Int) < (L : Int) := by omega
      clear c0 q0 hp hb hg fd
      go_wp2_with fail
      go_quiet (fail)
      go_wp2_with fail
      go_roundg (gk - 1)
      case measure => have := unhide hi; omega
      case rel => exact ⟨i + 1, by have := unhide hi; unfold Hid; omega, by go_num, by obtain ⟨k, e⟩ := unhide hB; exact ⟨k + nq, by rw [e, World.drewN_drewN]⟩⟩
    · have hiL : i = L := by have := unhide hi; omega
      subst hiL
      obtain ⟨k, rfl⟩ := unhide hB
      go_wp2_with fail
      go_ret
      exact ⟨rfl, k, rfl⟩

/-- The greatest. -/
def mxl : List Int → Int
  | [] => 0
  | x :: r => r.foldl max x
theorem mxl_push {xs : List Int} {i : Nat} {x : Int} (h0 : 0 < i) (hx : xs[i]? = some x) : mxl (xs.take (i + 1)) = max (mxl (xs.take i)) x := by
  rw [take_push hx]
  cases xs with
  | nil => simp at hx
  | cons y r =>
    cases i with
    | zero => omega
    | succ i => simp [mxl, List.foldl_append]
set_option maxRecDepth 100000 in
set_option maxHeartbeats 1600000 in
theorem max_any {w : World} {v : Value} {l : List Int} (h : Rn w v l) (h0 : 0 < l.length) :
    Calls Tryz.prog 59 #[v] w fun e w' => e = .returned (.int .i64 (mxl l)) ∧ w' = w := by
  have HU := hide (fun i p (hp : l[i]? = some p) => h.at hp)
  obtain ⟨ua, uc, rfl, _, um⟩ := h.shape
  obtain ⟨L, hL⟩ : ∃ L, Hid (l.length = L) := ⟨_, rfl⟩
  have hLm : L ≤ maxLen := by rw [← unhide hL]; omega
  unfold maxLen at hLm
  obtain ⟨R, hR⟩ : ∃ R, Hid (mxl l = R) := ⟨_, rfl⟩
  rw [unhide hR]
  rw [unhide hL] at HU h0 ⊢
  clear h um
  obtain ⟨x0, hx0⟩ : ∃ x, l[0]? = some x := ⟨_, List.getElem?_eq_getElem (by rw [unhide hL]; exact h0)⟩
  obtain ⟨b, so, c', e, hb, c0⟩ := unhide HU 0 x0 hx0
  cases e
  have i1 : (1 : Int) ≤ (L : Int) := by omega
  have i2 : (0 : Int) < (L : Int) := by omega
  have hm1 : Hid (mxl (l.take 1) = x0) := by
    unfold Hid
    cases l with
    | nil => simp at hx0
    | cons y r => simp at hx0; simp [mxl, hx0]
  rw [Nat.add_zero] at c0
  clear hx0
  go_enter Tryz.func59, Tryz.ntmps59
  go_wp2_with fail
  go_loopg [3, 4] L (fun gg t3 t4 wr => ∃ (i : Nat) (m : Int), Hid (i + gg = L + 1 ∧ 1 ≤ i ∧ i ≤ L) ∧ t3 = .int .i64 m ∧ t4 = .int .i64 (i : Int) ∧ Hid (mxl (l.take i) = m) ∧ wr = w)
  case atStart => exact ⟨1, x0, by unfold Hid; omega, rfl, rfl, hm1, rfl⟩
  case round =>
    obtain ⟨i, m, hi, rfl, rfl, hM, rfl⟩ := hrel
    clear c0
    by_cases hlt : i < L
    · obtain ⟨p, hp⟩ : ∃ p, l[i]? = some p := ⟨_, List.getElem?_eq_getElem (by rw [unhide hL]; exact hlt)⟩
      obtain ⟨b', so', c'', e, hb', c1⟩ := unhide HU i p hp
      cases e
      have i0 : (0 : Int) ≤ (i : Int) := by omega
      have i1 : (i : Int) < (L : Int) := by omega
      have hM2 : Hid (mxl (l.take (i + 1)) = max m p) := by unfold Hid; rw [mxl_push (by have := (unhide hi).2.1; omega) hp, unhide hM]
      clear hp
      by_cases hmp : m < p
      · have e : max m p = p := by omega
        rw [e] at hM2
        go_wp2_with fail
        go_roundg (gk - 1)
        case measure => have := unhide hi; omega
        case rel => exact ⟨i + 1, _, by have := unhide hi; unfold Hid; omega, rfl, by go_num, hM2, rfl⟩
      · have e : max m p = m := by omega
        rw [e] at hM2
        go_wp2_with fail
        go_roundg (gk - 1)
        case measure => have := unhide hi; omega
        case rel => exact ⟨i + 1, _, by have := unhide hi; unfold Hid; omega, rfl, by go_num, hM2, rfl⟩
    · have hiL : i = L := by have := unhide hi; omega
      have hmR : m = R := by rw [← unhide hM, ← unhide hR, List.take_of_length_le (by rw [unhide hL]; omega)]
      subst hmR
      have i1 : ¬ (i : Int) < (L : Int) := by omega
      go_wp2_with fail
      go_ret
      exact ⟨rfl, rfl⟩
/-- Where a number stands first; -1: nowhere. -/
def ixl (xs : List Int) (x : Int) : Int := match xs.findIdx? (· == x) with | some i => (i : Int) | none => -1
theorem ixl_hit {xs : List Int} {x : Int} {i : Nat} (h : xs[i]? = some x) (hno : ∀ j y, j < i → xs[j]? = some y → y ≠ x) : ixl xs x = (i : Int) := by
  unfold ixl
  have : xs.findIdx? (· == x) = some i := by
    rw [List.findIdx?_eq_some_iff_getElem]
    obtain ⟨hi, e⟩ := List.getElem?_eq_some_iff.1 h
    refine ⟨hi, by simp [e], fun j hj => ?_⟩
    have := hno j _ hj (List.getElem?_eq_getElem (by omega))
    simp [this]
  rw [this]
theorem ixl_miss {xs : List Int} {x : Int} (hno : ∀ j y, j < xs.length → xs[j]? = some y → y ≠ x) : ixl xs x = -1 := by
  unfold ixl
  have : xs.findIdx? (· == x) = none := by
    rw [List.findIdx?_eq_none_iff]
    intro y hy
    obtain ⟨j, hj, e⟩ := List.getElem_of_mem hy
    have := hno j y hj (by rw [← e]; exact List.getElem?_eq_getElem hj)
    simp [this]
  rw [this]
set_option maxRecDepth 100000 in
set_option maxHeartbeats 1600000 in
theorem index_any {w : World} {v : Value} {l : List Int} (x : Int) (h : Rn w v l) :
    Calls Tryz.prog 106 #[v, .int .i64 x] w fun e w' => e = .returned (.int .i64 (ixl l x)) ∧ w' = w := by
  have HU := hide (fun i p (hp : l[i]? = some p) => h.at hp)
  obtain ⟨ua, uc, rfl, _, um⟩ := h.shape
  obtain ⟨L, hL⟩ : ∃ L, Hid (l.length = L) := ⟨_, rfl⟩
  have hLm : L ≤ maxLen := by rw [← unhide hL]; omega
  unfold maxLen at hLm
  obtain ⟨R, hR⟩ : ∃ R, Hid (ixl l x = R) := ⟨_, rfl⟩
  rw [unhide hR]
  rw [unhide hL] at HU ⊢
  clear h um
  go_enter Tryz.func106, Tryz.ntmps106
  go_wp2_with fail
  go_loopg [5, 8] L (fun gg t5 t8 wr => ∃ (i : Nat) (u : Value), Hid (i + gg = L) ∧ t5 = u ∧ t8 = .int .i64 (i : Int) ∧ Hid (∀ j y, j < i → l[j]? = some y → y ≠ x) ∧ wr = w)
  case atStart => exact ⟨0, _, by unfold Hid; omega, rfl, rfl, by unfold Hid; intro j y hj; omega, rfl⟩
  case round =>
    obtain ⟨i, u, hi, rfl, rfl, hno, rfl⟩ := hrel
    by_cases hlt : i < L
    · obtain ⟨p, hp⟩ : ∃ p, l[i]? = some p := ⟨_, List.getElem?_eq_getElem (by rw [unhide hL]; exact hlt)⟩
      obtain ⟨b', so', c'', e, hb', c1⟩ := unhide HU i p hp
      cases e
      have i0 : (0 : Int) ≤ (i : Int) := by omega
      have i1 : (i : Int) < (L : Int) := by omega
      have HP := hide hp
      clear hp
      by_cases he : x = p
      · subst he
        have hRi : R = (i : Int) := by rw [← unhide hR]; exact ixl_hit (unhide HP) (unhide hno)
        subst hRi
        go_wp2_with fail
        go_ret
        exact ⟨rfl, rfl⟩
      · have hne : (x == p) = false := by simpa using he
        go_wp2_with fail
        go_roundg (gk - 1)
        case measure => have := unhide hi; omega
        case rel => exact ⟨i + 1, _, by have := unhide hi; unfold Hid; omega, rfl, by go_num, by
          unfold Hid
          intro j y hj hy
          by_cases q : j = i
          · subst q; rw [unhide HP] at hy; cases hy; exact fun e => he e.symm
          · exact unhide hno j y (by omega) hy, rfl⟩
    · have hRi : R = -1 := by rw [← unhide hR]; exact ixl_miss (fun j y hj hy => unhide hno j y (by have := unhide hi; rw [unhide hL] at hj; omega) hy)
      subst hRi
      have i1 : ¬ (i : Int) < (L : Int) := by omega
      go_wp2_with fail
      go_ret
      exact ⟨rfl, rfl⟩

set_option linter.unusedVariables false
set_option linter.unusedSimpArgs false
theorem band32 (n : Nat) (h : n < 4294967296) : bits .and .u64 (n : Int) 4294967295 = (n : Int) := by
  have e : bits .and .u64 (n : Int) 4294967295 = ((n % 4294967296 : Nat) : Int) := by go_bits2
  rw [e]; omega
set_option maxRecDepth 100000 in
set_option maxHeartbeats 1600000 in
theorem mul64_one (w : World) (n : Nat) (h : n ≤ 1048576) : Calls Tryz.prog 189 #[.int .u64 1, .int .u64 (n : Int)] w fun e w' => e = .returned (.tuple #[.int .u64 0, .int .u64 (n : Int)]) ∧ w' = w := by
  have a1 : bits .and .u64 (n : Int) 4294967295 = (n : Int) := band32 n (by omega)
  have a2 : bits .and .u64 1 4294967295 = 1 := band32 1 (by omega)
  have a3 : bits .and .u64 0 4294967295 = 0 := band32 0 (by omega)
  have a4 : (n : Int) / 4294967296 = 0 := by omega
  have a5 : (0 : Int) / 4294967296 = 0 := by decide
  have a6 : (1 : Int) / 4294967296 = 0 := by decide
  have a7 : IntKind.u64.wrap ((n : Int)) = (n : Int) := by go_arith
  go_enter Tryz.func189, Tryz.ntmps189
  go_wp2_with fail
  go_ret2
  exact ⟨rfl, rfl⟩
set_option maxRecDepth 100000 in
set_option maxHeartbeats 1600000 in
theorem mul_one_any (w : World) (n : Nat) (h : n ≤ 1048576) : Calls Tryz.prog 148 #[.int .u64 1, .int .u64 (n : Int)] w fun e w' => e = .returned (.tuple #[.int .u64 0, .int .u64 (n : Int)]) ∧ w' = w := by
  have HM := hide (mul64_one w n h)
  go_enter Tryz.func148, Tryz.ntmps148
  go_wp2_with fail
  refine (unhide HM).mono ?_
  rintro e w1 ⟨rfl, ew⟩
  rw [ew]
  clear ew HM w1
  go_wp2_with fail
  go_ret2
  exact ⟨rfl, rfl⟩

set_option linter.unusedVariables false
set_option linter.unusedSimpArgs false

theorem splice_at {α : Type} (L : List α) (off : Nat) (cs : List α) (h : off + cs.length ≤ L.length) (j : Nat) : (splice L off cs)[j]? = if j < off then L[j]? else if j < off + cs.length then cs[j - off]? else L[j]? := by
  unfold splice
  by_cases q : j < off
  · rw [if_pos q, List.getElem?_append_left (by simp; omega), List.getElem?_take, if_pos q]
  · rw [if_neg q, List.getElem?_append_right (by simp; omega)]
    have e : j - (List.take off L).length = j - off := by simp; omega
    rw [e]
    by_cases q2 : j < off + cs.length
    · rw [if_pos q2, List.getElem?_append_left (by omega)]
    · rw [if_neg q2, List.getElem?_append_right (by omega), List.getElem?_drop]
      congr 1
      omega
/-- The row of Repeat, k of it laid. -/
def RpR (w : World) (g N : Nat) (k : Nat) (wr : World) : Prop :=
  ∃ cur : List Value, wr.heap[g]? = some (.cells cur.toArray 3 (0, 0)) ∧ cur.length = N ∧ (∀ j, j < k → cur[j]? = some (.int .i64 (-1))) ∧ Below w.heap.size w wr ∧ w.heap.size ≤ g
theorem RpR.ro {w : World} {g N : Nat} {wr : World} (h : RpR w g N N wr) (hm : N ≤ maxLen) : Ro wr 1 (.slice (some ⟨g, 0, none⟩) N N) (List.replicate N (-1 : Int)).length (flt enN (List.replicate N (-1 : Int))) := by
  obtain ⟨cur, h1, h2, h3, h4, h5⟩ := h
  refine ⟨flt_length zN _, .inr ⟨g, 0, N, cur.toArray, 3, by rw [List.length_replicate], h1, by rw [List.length_replicate]; exact Nat.le_refl _, hm, by simp; omega, fun j hj => ?_⟩⟩
  rw [List.length_replicate, Nat.mul_one] at hj
  rw [Nat.zero_add]
  have e : (flt enN (List.replicate N (-1 : Int)))[j]? = some (.int .i64 (-1)) := by
    have := flt_at (en := enN) zN (l := List.replicate N (-1 : Int)) (k := j) (p := -1) (by simp [hj]) 0 (by omega)
    rw [Nat.mul_one, Nat.add_zero] at this
    rw [this]; rfl
  rw [e, ← h3 j hj]
  simp

theorem rep_made {w w2 : World} {N xb xo : Nat} {xs : List Value} (how : w2.ownsRow w.heap.size 3 1 (.slice (some ⟨w.heap.size, 0, none⟩) N N) N xs) (hgr : w.grownBy w2 none) (hxl : xb < w.heap.size) (hx : w.cell? ⟨xb, xo, none⟩ = some (.int .i64 (-1))) :
    ∃ cur : List Value, Hid (w2.heap[w.heap.size]? = some (.cells cur.toArray 3 (0, 0))) ∧ Hid (cur.length = N) ∧ Hid (Below w.heap.size w w2) ∧ Hid (∀ j v, [Value.int .i64 (-1)][j]? = some v → w2.cell? ((⟨xb, xo, none⟩ : Addr).add j) = some v) := by
  have hB2 : Below w.heap.size w w2 := ⟨hgr.os, hgr.tape, hgr.output, hgr.size, fun k hk => hgr.block k hk (by simp)⟩
  obtain ⟨hxl2, hx2⟩ := how
  rcases hx2 with ⟨e, _⟩ | ⟨g, cap, cur, e, _, hh, _, _, hsz, _⟩
  · cases e
  · cases e
    refine ⟨cur.toList, by simpa [Hid] using hh, by simpa [Hid] using hsz, hB2, fun j v hv => ?_⟩
    have hj : j < 1 := (List.getElem?_eq_some_iff.1 hv).1
    obtain rfl : j = 0 := by omega
    simp at hv
    subst hv
    rw [Go.WideShapes.add_plain]
    exact (hB2.cell (p := ⟨xb, xo, none⟩) hxl).trans hx
theorem rep_first {w w2 : World} {N xb xo xc : Nat} {cur0 : List Value} (h1 : 1 ≤ N) (hc : w2.heap[w.heap.size]? = some (.cells cur0.toArray 3 (0, 0))) (hl : cur0.length = N) (hb : Below w.heap.size w w2) (hs : ∀ j v, [Value.int .i64 (-1)][j]? = some v → w2.cell? ((⟨xb, xo, none⟩ : Addr).add j) = some v) :
    ∃ w3, (Builtin.copy_ #[55, 55] 3 #[.slice (some ⟨w.heap.size, 0, none⟩) N N, .slice (some ⟨xb, xo, none⟩) 1 xc]).run Tryz.prog w2 = .ok (.int .i64 1) w3 ∧ Hid (RpR w w.heap.size N 1 w3) := by
  have hrun := run_copy_row (P := Tryz.prog) w2 55 55 3 3 w.heap.size 0 N N ⟨xb, xo, none⟩ 1 xc cur0.toArray 3 [.int .i64 (-1)] Tryz.underlying55 (by kernel_rfl) hc (by simp [Nat.min_def]; omega) hs (by simp; omega) (by simp [Value.oneCell'])
  refine ⟨_, hrun, ⟨splice cur0 0 [.int .i64 (-1)], ?_, ?_, fun j hj => ?_, below_setRow hb (Nat.le_refl _) _, Nat.le_refl _⟩⟩
  · simpa [splice] using setRow_heap w2 w.heap.size _ _ 3 _ hc
  · rw [length_splice _ _ _ (by rw [hl]; simpa using h1)]; exact hl
  · rw [splice_at _ _ _ (by rw [hl]; simpa using h1), if_neg (by omega), if_pos (by simp; omega)]
    obtain rfl : j = 0 := by omega
    rfl
set_option maxRecDepth 100000 in
set_option maxHeartbeats 3200000 in
theorem repeat_any {w : World} {xb xo xc : Nat} (N : Nat) (h1 : 1 ≤ N) (hN : N ≤ 1048576) (hx : w.cell? ⟨xb, xo, none⟩ = some (.int .i64 (-1))) :
    Calls Tryz.prog 104 #[.slice (some ⟨xb, xo, none⟩) 1 xc, .int .i64 (N : Int)] w fun e w' => ∃ g, e = .returned (.slice (some ⟨g, 0, none⟩) N N) ∧ RpR w g N N w' := by
  obtain ⟨i0, hi0, hz0, hz1, hz2⟩ := info_parts Tryz.info3
  have HM := hide (mul_one_any w N hN)
  have c1 : ¬ (N : Int) < 0 := by omega
  have cw1 : IntKind.u64.wrap (N : Int) = (N : Int) := by go_arith
  have cw2 : IntKind.u64.wrap 1 = 1 := by decide
  have cw3 : IntKind.i64.wrap (N : Int) = (N : Int) := by go_arith
  have c2 : ¬ (9223372036854775807 : Int) < (N : Int) := by omega
  have HXL : Hid (xb < w.heap.size) := World.block_lt_of_cell? _ _ hx
  have HX := hide hx
  clear hx
  go_enter Tryz.func104, Tryz.ntmps104
  go_wp2_with fail
  refine (unhide HM).mono ?_
  rintro e w1 ⟨rfl, ew⟩
  rw [ew]
  clear ew w1 HM
  go_wp2_with (first | (at_make; refine wpList_make_full _ rfl _ _ 55 rfl w.heap.size 3 i0 _ 1 Tryz.underlying55 hi0 hz0 hz1 _ _ _ _ N rfl rfl rfl rfl (by rw [hz2]; omega) (by unfold maxLen; omega) (Nat.le_refl _) ?_; intro w2 how hgr; obtain ⟨cur0, HC0, HL0, HB2, HSRC0⟩ := rep_made how hgr (unhide HXL) (unhide HX); clear how hgr; obtain ⟨w3, hrun, HR3⟩ := rep_first (xc := xc) h1 (unhide HC0) (unhide HL0) (unhide HB2) (unhide HSRC0); clear HC0 HL0 HB2 HSRC0))
  clear hrun
  obtain ⟨g, hgg⟩ : ∃ g, g = w.heap.size := ⟨_, rfl⟩
  rw [← hgg] at HR3 ⊢
  clear hgg
  go_loopg [8] N (fun gk t8 wr => ∃ (k : Nat), Hid (k + gk ≤ N + 1 ∧ 1 ≤ k ∧ k ≤ N ∧ N - k ≤ gk) ∧ t8 = .int .i64 (k : Int) ∧ Hid (RpR w g N k wr))
  case atStart => exact ⟨1, by unfold Hid; omega, rfl, HR3⟩
  case round =>
    obtain ⟨k, hk, rfl, hR⟩ := hrel
    have hk1 := (unhide hk).2.1
    by_cases hlt : k < N
    · have i1 : (k : Int) < (N : Int) := by omega
      have i2 : (0 : Int) ≤ (k : Int) := by omega
      have i3 : (k : Int) ≤ (N : Int) := by omega
      obtain ⟨cur, hg, hcl0, hall, hbd, hgB0⟩ := unhide hR
      have HG := hide hg
      have hcl := hide hcl0
      have HALL := hide hall
      have HBD := hide hbd
      have hgB := hide hgB0
      have hsrc : ∀ j v, (List.replicate (Nat.min k (N - k)) (Value.int .i64 (-1)))[j]? = some v → wr.cell? ((⟨g, 0, none⟩ : Addr).add j) = some v := fun j v hv => by
        rw [List.getElem?_replicate] at hv
        split at hv
        · rename_i hj
          cases hv
          rw [Go.WideShapes.add_plain]
          have := hall j (by have : Nat.min k (N - k) ≤ k := Nat.min_le_left _ _; omega)
          simp [World.cell?, hg]
          simpa using this
        · cases hv
      have HSRC := hide (show ∀ j v, (List.replicate (Nat.min k (N - k)) (Value.int .i64 (-1)))[j]? = some v → wr.drew.cell? ((⟨g, 0, none⟩ : Addr).add j) = some v from hsrc)
      have HBD' : Hid (Below w.heap.size w wr.drew) := ⟨hbd.os, hbd.tape, hbd.output, hbd.size, hbd.block⟩
      have HG' : Hid (wr.drew.heap[g]? = some (.cells cur.toArray 3 (0, 0))) := hg
      clear hg hcl0 hall hbd hgB0 hsrc
      go_wp2_with fail
      refine wp_region_held_drew (S := (fun _ => True)) (by kernel_rfl) trivial (fun hHeld => ?_)
      refine wpAnyH_take (i := 0) (oi := _) (v := .int .i64 (k : Int)) rfl (by kernel_rfl) (by kernel_rfl) (by kernel_rfl) (fun _ _ _ h => h) (Or.inl ⟨by rfl, (by intro w hSw; go_simp)⟩) (by assumption) ?_
      refine wpAnyH_take (i := 1) (oi := _) (v := .slice (some ⟨g, 0, none⟩) N N) rfl (by kernel_rfl) (by kernel_rfl) (by kernel_rfl) (fun _ _ _ h => h) (Or.inl ⟨by rfl, (by intro w hSw; go_simp)⟩) (by assumption) ?_
      refine wpAnyH_take (i := 2) (oi := _) (v := .int .i64 (k : Int)) rfl (by kernel_rfl) (by kernel_rfl) (by kernel_rfl) (fun _ _ _ h => h) (Or.inl ⟨by rfl, (by intro w hSw; go_simp)⟩) (by assumption) ?_
      go_simp
      refine wpAnyH_take (i := 3) (oi := _) (v := .slice (some ⟨g, k, none⟩) (N - k) (N - k)) rfl (by kernel_rfl) (by kernel_rfl) (by kernel_rfl) (fun _ _ _ h => h) (Or.inl ⟨by rfl, (by intro w hSw; have hne : ¬ N = k := (by omega); go_simp)⟩) (by assumption) ?_
      go_simp
      refine wpAnyH_take (i := 4) (oi := _) (v := .slice (some ⟨g, 0, none⟩) N N) rfl (by kernel_rfl) (by kernel_rfl) (by kernel_rfl) (fun _ _ _ h => h) (Or.inl ⟨by rfl, (by intro w hSw; go_simp)⟩) (by assumption) ?_
      refine wpAnyH_take (i := 5) (oi := _) (v := .int .i64 (k : Int)) rfl (by kernel_rfl) (by kernel_rfl) (by kernel_rfl) (fun _ _ _ h => h) (Or.inl ⟨by rfl, (by intro w hSw; go_simp)⟩) (by assumption) ?_
      refine wpAnyH_take (i := 6) (oi := _) (v := .slice (some ⟨g, 0, none⟩) k N) rfl (by kernel_rfl) (by kernel_rfl) (by kernel_rfl) (fun _ _ _ h => h) (Or.inl ⟨by rfl, (by intro w hSw; go_simp)⟩) (by assumption) ?_
      go_simp
      refine wpAnyH_ready (rs := [7]) (by kernel_rfl) (by simp) ?_
      refine AllReadyH.cons (o := _) rfl (fun K hK => ?_) AllReadyH.nil
      refine step_copy_splice rfl (.tmp 41) (.tmp 44) 55 55 rfl 3 Tryz.underlying55 (by kernel_rfl) (some ⟨g, k, none⟩) (some ⟨g, 0, none⟩) (N - k) (N - k) k N rfl rfl g k cur 3 (unhide HG') (List.replicate (Nat.min k (N - k)) (.int .i64 (-1))) (by simp) (fun _ => ⟨rfl, ⟨g, 0, none⟩, rfl, unhide HSRC⟩) (by rw [unhide hcl, List.length_replicate]; have : Nat.min k (N - k) ≤ N - k := Nat.min_le_right _ _; omega) (by intro v hv; rw [List.eq_of_mem_replicate hv]; rfl) w.heap.size w (unhide HBD') (unhide hgB) ?_
      intro w4 hg4 hb4
      rw [List.length_replicate]
      have HG4 := hide hg4.out
      have HB4 := hide hb4
      obtain ⟨M, hM⟩ : ∃ M : Nat, Hid (Nat.min k (N - k) = M) := ⟨_, rfl⟩
      rw [unhide hM] at HG4 ⊢
      have hM1 : 1 ≤ M := by rw [← unhide hM]; exact Nat.le_min.2 ⟨hk1, by omega⟩
      have hM2 : k + M ≤ N := by have : Nat.min k (N - k) ≤ N - k := Nat.min_le_right _ _; rw [unhide hM] at this; omega
      clear hg4 hb4
      refine hK.out _ _ trivial (fun hHeld7 => ?_)
      clear hK K
      unfold goInt
      go_simp
      refine wpAnyH_take (i := 8) (oi := _) (v := .int .i64 ((k : Int) + (M : Int))) rfl (by kernel_rfl) (by kernel_rfl) (by kernel_rfl) (fun _ _ _ h => h) (Or.inl ⟨by rfl, (by intro w hSw; have hwr : IntKind.i64.wrap ((k : Int) + (M : Int)) = (k : Int) + (M : Int) := (by go_arith); go_simp)⟩) (by assumption) ?_
      go_simp
      refine wpAnyH_ready (rs := [9]) (by kernel_rfl) (by simp) ?_
      refine AllReadyH.cons (o := _) rfl (fun K hK => ?_) AllReadyH.nil
      go_simp
      refine hK.out _ _ trivial (fun hHeld9 => ?_)
      clear hK K
      go_simp
      refine wpAnyH_done (by kernel_rfl) ?_ _
      clear hHeld hHeld7 hHeld9
      have hR4 : RpR w g N (k + M) w4 := by
        refine ⟨_, unhide HG4, ?_, fun j hj => ?_, unhide HB4, unhide hgB⟩
        · rw [length_splice _ _ _ (by rw [unhide hcl]; simp; omega)]; exact unhide hcl
        · rw [splice_at _ _ _ (by rw [unhide hcl]; simp; omega)]
          by_cases q : j < k
          · rw [if_pos q]; exact unhide HALL j q
          · rw [if_neg q, if_pos (by simp; omega), List.getElem?_replicate, if_pos (by omega)]
      have HR4 := hide hR4
      clear hR4 HG4 HB4
      go_wp2_with fail
      go_roundg (gk - M)
      case measure => have := unhide hk; omega
      case rel => exact ⟨k + M, by have := unhide hk; unfold Hid; omega, by go_num, HR4⟩
    · have hkN : k = N := by have := unhide hk; omega
      subst hkN
      go_wp2_with fail
      go_ret
      exact ⟨g, rfl, unhide hR⟩

set_option linter.unusedVariables false
set_option linter.unusedSimpArgs false

theorem flt_map (xs : List Int) : flt enN xs = xs.map (Value.int .i64) := by
  induction xs with
  | nil => rfl
  | cons x r ih => simp only [flt, List.flatMap_cons] at ih ⊢; rw [ih]; rfl
theorem Ro.putN {w : World} {n : Nat} {xs : List Int} {g off cap : Nat} (h : Ro w 1 (.slice (some ⟨g, off, none⟩) n cap) n (flt enN xs)) {i : Nat} (hi : i < n) (x : Int) :
    Ro (w.setCell ⟨g, off + i, none⟩ (.int .i64 x)) 1 (.slice (some ⟨g, off, none⟩) n cap) n (flt enN (xs.set i x)) := by
  have hl := h.1
  obtain ⟨_, _, e, hc, _⟩ := h.shape
  cases e
  rw [flt_map] at hl
  refine (h.sets (v := .slice (some ⟨g, off, none⟩) n cap) rfl (o := off + i) (m := n) (vs := [.int .i64 x]) (ys := flt enN (xs.set i x)) (by omega) (by simp; omega) hc (by rw [flt_map] ; simpa using hl) (fun j hj => ?_) (fun j hj q => by omega)).1
  rw [flt_map, flt_map, List.map_set]
  by_cases q : j = i
  · subst q
    rw [if_pos (by simp), List.getElem?_set_self (by omega)]
    simp
  · rw [if_neg (by simp; omega), List.getElem?_set_ne (by omega)]
/-- What the handlers that hold a place keep. -/
def flo (hs : List Hd) (p : Int) : Int := hs.foldl (fun a h => if h.frm ≤ p ∧ p < h.to then max a h.height else a) 0
def fls (n : Nat) (hs : List Hd) : List Int := (List.range n).map (fun (p : Nat) => flo hs (p : Int))
/-- The same, up to p with one handler more. -/
def mix (n : Nat) (hs : List Hd) (i : Nat) (p : Int) : List Int := (List.range n).map (fun (q : Nat) => if (q : Int) < p then flo (hs.take (i + 1)) (q : Int) else flo (hs.take i) (q : Int))
theorem flo_push {hs : List Hd} {i : Nat} {h : Hd} (hh : hs[i]? = some h) (p : Int) : flo (hs.take (i + 1)) p = if h.frm ≤ p ∧ p < h.to then max (flo (hs.take i) p) h.height else flo (hs.take i) p := by
  rw [take_push hh]; simp [flo, List.foldl_append]
theorem mix_start {hs : List Hd} {i : Nat} {h : Hd} (n : Nat) (hh : hs[i]? = some h) : mix n hs i h.frm = fls n (hs.take i) := by
  unfold mix fls
  refine List.map_congr_left fun q hq => ?_
  split
  · rw [flo_push hh, if_neg (by omega)]
  · rfl
theorem mix_end {hs : List Hd} {i : Nat} {h : Hd} (n : Nat) (hh : hs[i]? = some h) {p : Int} (hp : h.to ≤ p) : mix n hs i p = fls n (hs.take (i + 1)) := by
  unfold mix fls
  refine List.map_congr_left fun q hq => ?_
  split
  · rfl
  · rw [flo_push hh, if_neg (by omega)]
theorem mix_at {hs : List Hd} {i n p : Nat} (hp : p < n) : (mix n hs i (p : Int))[p]? = some (flo (hs.take i) (p : Int)) := by
  unfold mix; simp [hp]
theorem mix_step {hs : List Hd} {i n p : Nat} {h : Hd} (hh : hs[i]? = some h) (h1 : h.frm ≤ (p : Int)) (h2 : (p : Int) < h.to) : mix n hs i ((p : Int) + 1) = (mix n hs i (p : Int)).set p (max (flo (hs.take i) (p : Int)) h.height) := by
  apply List.ext_getElem?
  intro j
  rw [List.getElem?_set]
  unfold mix
  by_cases hj : j < n
  · by_cases q : p = j
    · subst q
      rw [if_pos rfl]
      simp only [List.length_map, List.length_range, hj, if_true]
      simp only [List.getElem?_map, List.getElem?_range hj, Option.map_some]
      rw [if_pos (by omega), flo_push hh, if_pos ⟨h1, h2⟩]
    · rw [if_neg q]
      simp only [List.getElem?_map, List.getElem?_range hj, Option.map_some]
      congr 1
      by_cases q2 : (j : Int) < (p : Int)
      · rw [if_pos q2, if_pos (by omega)]
      · rw [if_neg q2, if_neg (by omega)]
  · rw [List.getElem?_eq_none (by simp; omega)]
    split
    · simp; omega
    · rw [List.getElem?_eq_none (by simp; omega)]
theorem fls_nil (n : Nat) : fls n [] = List.replicate n 0 := by
  unfold fls flo
  simp only [List.foldl_nil]
  rw [List.map_const', List.length_range]
theorem flt_zeros (n : Nat) : flt enN (List.replicate n (0 : Int)) = List.replicate n (Value.int .i64 0) := by rw [flt_map, List.map_replicate]
/-- The list of floors as it grows. -/
def FlR (w0 : World) (g go N : Nat) (xs : List Int) (wr : World) : Prop := Ro wr 1 (.slice (some ⟨g, go, none⟩) N N) N (flt enN xs) ∧ Below w0.heap.size w0 wr ∧ w0.heap.size ≤ g
theorem flo_made {w w2 : World} {N : Nat} {u0 u1 u2 u3 u4 : Value} (how : w2.ownsRow (w.heap.size + 1) 3 1 (.slice (some ⟨w.heap.size + 1, 0, none⟩) N N) N (madeCells (Value.int .i64 0).cells (N * 1)).toList) (hgr : (w.alloc (.cells #[u0, u1, u2, u3, u4] 73)).grownBy w2 none) :
    Hid (FlR (w.alloc (.cells #[u0, u1, u2, u3, u4] 73)) (w.heap.size + 1) 0 N (fls N []) w2) ∧ w2.cell? ⟨w.heap.size, 4, none⟩ = some u4 ∧ w.heap.size < w2.heap.size := by
  have hB2 : Below (w.alloc (.cells #[u0, u1, u2, u3, u4] 73)).heap.size (w.alloc (.cells #[u0, u1, u2, u3, u4] 73)) w2 := ⟨hgr.os, hgr.tape, hgr.output, hgr.size, fun k hk => hgr.block k hk (by simp)⟩
  have n4 := new_cells w #[u0, u1, u2, u3, u4] 73 4 u4 rfl
  rw [Go.WideShapes.add_plain] at n4
  have e : (madeCells (Value.int .i64 0).cells (N * 1)).toList = flt enN (fls N []) := by
    rw [fls_nil, flt_zeros]
    apply List.ext_getElem?
    intro j
    by_cases hj : j < N
    · simp [madeCells, Value.cells, List.getElem?_replicate, hj, Nat.mod_one]
    · simp [madeCells, Value.cells, List.getElem?_replicate, hj]
  rw [e] at how
  exact ⟨⟨Ro.of_own how, hB2, by simp⟩, (hB2.cell (p := ⟨w.heap.size, 4, none⟩) (by simp)).trans n4, by have := hB2.size; simp at this; omega⟩
set_option maxRecDepth 100000 in
set_option maxHeartbeats 3200000 in
theorem floors_any {w : World} {nm : ByteArray} {pr lc : Int} {ca : Option Addr} {N cc : Nat} {hv : Value} {hs : List Hd} (hN1 : 1 ≤ N) (hN : N ≤ 1048576) (hh : Rx w 4 hv hs.length (flt enH hs)) (hok : ∀ h ∈ hs, 0 ≤ h.frm ∧ h.frm ≤ h.to ∧ h.to ≤ (N : Int)) :
    Calls Tryz.prog 102 #[.agg #[.string nm, .int .i64 pr, .int .i64 lc, .slice ca N cc, hv]] w fun e w' => ∃ g, e = .returned (.slice (some ⟨g, 0, none⟩) N N) ∧ Ro w' 1 (.slice (some ⟨g, 0, none⟩) N N) N (flt enN (fls N hs)) ∧ Below w.heap.size w w' ∧ w.heap.size ≤ g := by
  obtain ⟨i0, hi0, hz0, hz1, hz2⟩ := info_parts Tryz.info3
  have HH := hide (fun i h (hx : hs[i]? = some h) => Rx.elem zH hh hx)
  have HOK := hide hok
  obtain ⟨_, ha, hc, rfl, hlc, hcm, _⟩ := hh
  obtain ⟨HL, hHL⟩ : ∃ L, Hid (hs.length = L) := ⟨_, rfl⟩
  have hHm : HL ≤ maxLen := by rw [← unhide hHL]; omega
  unfold maxLen at hHm
  rw [unhide hHL] at HH ⊢
  clear hok hlc hcm
  go_enter Tryz.func102, Tryz.ntmps102
  go_wp2_with (first | (at_make; refine wpList_make_full _ rfl _ _ 55 rfl (w.heap.size + 1) 3 i0 (.int .i64 0) 1 Tryz.underlying55 hi0 hz0 hz1 _ _ _ _ N rfl rfl rfl rfl (by rw [hz2]; omega) (by unfold maxLen; omega) (by simp) ?_; intro w2 how hgr; obtain ⟨HF2, k4, kl⟩ := flo_made (by simpa using how) hgr; clear how hgr))
  clear k4 kl
  obtain ⟨w0, ew0⟩ : ∃ w0, w0 = w.alloc (.cells #[.string nm, .int .i64 pr, .int .i64 lc, .slice ca N cc, .slice ha HL hc] 73) := ⟨_, rfl⟩
  rw [← ew0] at HF2
  have HW0 : Hid (Below w.heap.size w w0) := by rw [ew0]; exact (Below.refl _ _).alloc (Nat.le_refl _) _
  have hs0 : Hid (w0.heap.size = w.heap.size + 1) := by unfold Hid; rw [ew0]; simp
  clear ew0
  obtain ⟨g, hg⟩ : ∃ g, g = w.heap.size + 1 := ⟨_, rfl⟩
  rw [← hg] at HF2 ⊢
  have hgw : Hid (w.heap.size < g) := by unfold Hid; omega
  clear hg
  go_loopg [14] HL (fun gg t14 wr => ∃ (i : Nat), Hid (i + gg = HL) ∧ t14 = .int .i64 (i : Int) ∧ Hid (FlR w0 g 0 N (fls N (hs.take i)) wr))
  case atStart => exact ⟨0, by unfold Hid; omega, rfl, HF2⟩
  case round =>
    obtain ⟨i, hi, rfl, hF⟩ := hrel
    clear HF2
    have i0' : (0 : Int) ≤ (i : Int) := by omega
    by_cases hlt : i < HL
    · have i1 : (i : Int) < (HL : Int) := by omega
      obtain ⟨h, hh⟩ : ∃ h, hs[i]? = some h := ⟨_, List.getElem?_eq_getElem (by rw [unhide hHL]; exact hlt)⟩
      obtain ⟨ok1, ok2, ok3⟩ := unhide HOK h (List.mem_of_getElem? hh)
      obtain ⟨b, off, c', e, _, _, hb, hc0⟩ := unhide HH i h hh
      cases e
      have hbel : Below w.heap.size w wr := (unhide HW0).trans ((unhide hF).2.1.mono (by have := unhide hs0; omega))
      have k0 := (hbel.cell (p := ⟨b, off + i * 4 + 0, none⟩) hb).trans (hc0 0 _ rfl)
      have k1 := (hbel.cell (p := ⟨b, off + i * 4 + 1, none⟩) hb).trans (hc0 1 _ rfl)
      have k2 := (hbel.cell (p := ⟨b, off + i * 4 + 2, none⟩) hb).trans (hc0 2 _ rfl)
      have k3 := (hbel.cell (p := ⟨b, off + i * 4 + 3, none⟩) hb).trans (hc0 3 _ rfl)
      rw [Nat.add_zero] at k0
      have hbr := Nat.lt_of_lt_of_le hb hbel.size
      have HHI := hide hh
      obtain ⟨f1, t1, g1, h4⟩ := h
      simp only at k0 k1 k2 k3 ok1 ok2 ok3
      have hgl : g < wr.heap.size := (unhide hF).1.lt g rfl
      have hms : Hid (mix N hs i f1 = fls N (hs.take i)) := mix_start N (unhide HHI)
      clear hc0 hh hbel
      go_wp2_with fail
      obtain ⟨bx, hbx⟩ : ∃ bx, bx = wr.heap.size := ⟨_, rfl⟩
      obtain ⟨W1, eW1⟩ : ∃ W1, W1 = wr.alloc (.cells #[.int .i64 f1, .int .i64 t1, .int .i64 g1, .int .i64 h4] 112) := ⟨_, rfl⟩
      have hb1 : Below wr.heap.size wr W1 := by rw [eW1]; exact (Below.refl _ _).alloc (Nat.le_refl _) _
      have nb := fun j z (hz : #[Value.int .i64 f1, .int .i64 t1, .int .i64 g1, .int .i64 h4].toList[j]? = some z) => new_cells wr #[.int .i64 f1, .int .i64 t1, .int .i64 g1, .int .i64 h4] 112 j z hz
      have x1 : W1.cell? ⟨bx, 1, none⟩ = some (.int .i64 t1) := by have := nb 1 _ rfl; rw [Go.WideShapes.add_plain] at this; rw [eW1, hbx]; exact this
      have x3 : W1.cell? ⟨bx, 3, none⟩ = some (.int .i64 h4) := by have := nb 3 _ rfl; rw [Go.WideShapes.add_plain] at this; rw [eW1, hbx]; exact this
      have HX1 := hide x1
      have HX3 := hide x3
      have HFs : Hid (FlR w0 g 0 N (mix N hs i f1) W1) := by
        unfold Hid
        rw [unhide hms]
        exact ⟨(unhide hF).1.keep (fun q hq => hb1.block q ((unhide hF).1.lt q hq)), (unhide hF).2.1.trans (hb1.mono (unhide hF).2.1.size), (unhide hF).2.2⟩
      have hbg : Hid (g < bx) := by unfold Hid; rw [hbx]; exact hgl
      rw [← eW1, ← hbx]
      clear eW1 hbx nb x1 x3 hb1 k0 k1 k2 k3 hgl hF hms
      obtain ⟨G, hG⟩ : ∃ G, Hid (gk = G) := ⟨_, rfl⟩
      rw [unhide hG] at hi
      go_loopg [6] (t1 - f1).toNat (fun gg t6 wi => ∃ (p : Int), Hid (f1 ≤ p ∧ p ≤ t1 ∧ (t1 - p).toNat ≤ gg) ∧ t6 = .int .i64 p ∧ Hid (FlR w0 g 0 N (mix N hs i p) wi) ∧ Hid (wi.cell? ⟨bx, 1, none⟩ = some (.int .i64 t1)) ∧ Hid (wi.cell? ⟨bx, 3, none⟩ = some (.int .i64 h4)))
      case atStart => exact ⟨f1, by unfold Hid; omega, rfl, HFs, HX1, HX3⟩
      case round =>
        obtain ⟨p0, hp, rfl, hF, hX1, hX3⟩ := hrel
        have x1 := unhide hX1
        have kh3 := unhide hX3
        have lx : bx < wr.heap.size := World.block_lt_of_cell? _ _ x1
        by_cases hlt2 : p0 < t1
        · obtain ⟨p, rfl⟩ : ∃ p : Nat, p0 = (p : Int) := ⟨p0.toNat, by have := unhide hp; omega⟩
          have hpN : p < N := by omega
          have j0 : (0 : Int) ≤ (p : Int) := by omega
          have j1 : (p : Int) < (N : Int) := by omega
          obtain ⟨y, hy⟩ : ∃ y, Hid (flo (hs.take i) (p : Int) = y) := ⟨_, rfl⟩
          have hst := mix_step (n := N) (unhide HHI) (p := p) (by have := (unhide hp).1; exact this) hlt2
          have hat : (mix N hs i (p : Int))[p]? = some y := by rw [← unhide hy]; exact mix_at hpN
          rw [unhide hy] at hst
          have HST := hide hst
          have hr1 : Rn wr (.slice (some ⟨g, 0, none⟩) N N) (mix N hs i (p : Int)) := by
            have hml : (mix N hs i (p : Int)).length = N := by simp [mix]
            have h1 := (unhide hF).1
            refine Rx.of_ro ?_
            rw [hml]; exact h1
          have hml : (mix N hs i (p : Int)).length = N := by simp [mix]
          obtain ⟨_, _, _, e, _, ky⟩ := hr1.at hat
          rw [hml] at e
          cases e
          clear hml
          rw [Nat.zero_add] at ky
          have kfz : wr.frozen? ⟨g, p, none⟩ = false := (unhide hF).1.free rfl _
          have lg : g < wr.heap.size := World.block_lt_of_cell? _ _ ky
          have HP := fun v => (unhide hF).1.putN hpN v
          have HPUT := hide HP
          have hFr : ∀ v, Fr (fun x => x = g) wr (wr.setCell ⟨g, p, none⟩ v).drew := fun v => ((Fr.refl (fun x => x = g) wr).setCell ⟨g, p, none⟩ (.inr rfl) v).drew
          have HFR := hide hFr
          clear hst hat hr1 HP hFr
          go_wp2_with fail
          by_cases hmx : y < h4
          · have emx : Hid (max y h4 = h4) := by unfold Hid; omega
            refine wp_region_held_drew (S := (fun _ => True)) (by kernel_rfl) (trivial) (fun hHeld => ?_)
            refine wpAnyH_take (i := 0) (oi := _) (v := .slice (some ⟨g, 0, none⟩) N N) rfl (by kernel_rfl) (by kernel_rfl) (by kernel_rfl) (fun _ _ _ h => h) (Or.inl ⟨by rfl, (by intro w hSw; go_simp)⟩) (by assumption) ?_
            go_simp
            refine wpAnyH_take (i := 1) (oi := _) (v := .int .i64 (p : Int)) rfl (by kernel_rfl) (by kernel_rfl) (by kernel_rfl) (fun _ _ _ h => h) (Or.inl ⟨by rfl, (by intro w hSw; go_simp)⟩) (by assumption) ?_
            go_simp
            refine wpAnyH_take (i := 2) (oi := _) (v := .slice (some ⟨g, 0, none⟩) N N) rfl (by kernel_rfl) (by kernel_rfl) (by kernel_rfl) (fun _ _ _ h => h) (Or.inl ⟨by rfl, (by intro w hSw; go_simp)⟩) (by assumption) ?_
            go_simp
            refine wpAnyH_take (i := 3) (oi := _) (v := .int .i64 (p : Int)) rfl (by kernel_rfl) (by kernel_rfl) (by kernel_rfl) (fun _ _ _ h => h) (Or.inl ⟨by rfl, (by intro w hSw; go_simp)⟩) (by assumption) ?_
            go_simp
            refine wpAnyH_take (i := 4) (oi := _) (v := .pointer (some ⟨g, p, none⟩)) rfl (by kernel_rfl) (by kernel_rfl) (by kernel_rfl) (fun _ _ _ h => h) (Or.inl ⟨by rfl, (by intro w hSw; go_simp)⟩) (by assumption) ?_
            go_simp
            refine wpAnyH_take (i := 6) (oi := _) (v := .pointer (some ⟨bx, 3, none⟩)) rfl (by kernel_rfl) (by kernel_rfl) (by kernel_rfl) (fun _ _ _ h => h) (Or.inl ⟨by rfl, (by intro w hSw; go_simp)⟩) (by assumption) ?_
            go_simp
            refine wpAnyH_ready (rs := [5, 7]) (by kernel_rfl) (by simp) ?_
            refine AllReadyH.cons (o := _) rfl (fun K hK => ?_) (AllReadyH.cons (o := _) rfl (fun K hK => ?_) AllReadyH.nil)
            · go_simp
              refine hK.out _ _ (trivial) (fun hHeld5x => ?_)
              clear hK K
              go_simp
              refine wpAnyH_ready (rs := [7]) (by kernel_rfl) (by simp) ?_
              refine AllReadyH.cons (o := _) rfl (fun K hK => ?_) AllReadyH.nil
              go_simp
              refine hK.out _ _ (trivial) (fun hHeld7x => ?_)
              clear hK K
              go_simp
              refine wpAnyH_take (i := 8) (oi := _) (v := .int .i64 h4) rfl (by kernel_rfl) (by kernel_rfl) (by kernel_rfl) (fun _ _ _ h => h) (Or.inl ⟨by rfl, (by intro w hSw; go_simp)⟩) (by assumption) ?_
              go_simp
              refine wpAnyH_take (i := 9) (oi := _) (v := .pointer (some ⟨g, p, none⟩)) rfl (by kernel_rfl) (by kernel_rfl) (by kernel_rfl) (fun _ _ _ h => h) (Or.inl ⟨by rfl, (by intro w hSw; go_simp)⟩) (by assumption) ?_
              go_simp
              refine wpAnyH_ready (rs := [10]) (by kernel_rfl) (by simp) ?_
              refine AllReadyH.cons (o := _) rfl (fun K hK => ?_) AllReadyH.nil
              go_simp
              refine hK.out _ _ (trivial) (fun hHeld10x => ?_)
              clear hK K
              go_simp
              refine wpAnyH_done (by kernel_rfl) ?_ _
              have HF3 : Hid (FlR w0 g 0 N (mix N hs i ((p : Int) + 1)) ((wr.setCell ⟨g, p, none⟩ (.int .i64 h4)).drew)) := by
                refine ⟨?_, (unhide hF).2.1.trans ((((unhide HFR) (.int .i64 h4)).mono (fun _ _ e => e)).below (unhide hF).2.1.size (fun q hq e => by have := (unhide hF).2.2; omega)), (unhide hF).2.2⟩
                rw [unhide HST, unhide emx]
                have := unhide HPUT h4
                rw [Nat.zero_add] at this
                exact this
              have HX1' : Hid (((wr.setCell ⟨g, p, none⟩ (.int .i64 h4)).drew).cell? ⟨bx, 1, none⟩ = some (.int .i64 t1)) := ((unhide HFR (.int .i64 h4)).cell (a := ⟨bx, 1, none⟩) lx (by show ¬ bx = g; have := unhide hbg; omega)).trans x1
              have HX3' : Hid (((wr.setCell ⟨g, p, none⟩ (.int .i64 h4)).drew).cell? ⟨bx, 3, none⟩ = some (.int .i64 h4)) := ((unhide HFR (.int .i64 h4)).cell (a := ⟨bx, 3, none⟩) lx (by show ¬ bx = g; have := unhide hbg; omega)).trans kh3
              obtain ⟨Wz, eWz⟩ : ∃ Wz, Wz = (wr.setCell ⟨g, p, none⟩ (.int .i64 h4)).drew := ⟨_, rfl⟩
              rw [← eWz] at HF3 HX1' HX3' ⊢
              clear eWz
              go_wp2_with fail
              go_roundg (gk - 1)
              case measure => have := unhide hp; omega
              case rel => exact ⟨(p : Int) + 1, by have := unhide hp; unfold Hid; omega, by go_num, HF3, HX1', HX3'⟩
            · go_simp
              refine hK.out _ _ (trivial) (fun hHeld7x => ?_)
              clear hK K
              go_simp
              refine wpAnyH_ready (rs := [5]) (by kernel_rfl) (by simp) ?_
              refine AllReadyH.cons (o := _) rfl (fun K hK => ?_) AllReadyH.nil
              go_simp
              refine hK.out _ _ (trivial) (fun hHeld5x => ?_)
              clear hK K
              go_simp
              refine wpAnyH_take (i := 8) (oi := _) (v := .int .i64 h4) rfl (by kernel_rfl) (by kernel_rfl) (by kernel_rfl) (fun _ _ _ h => h) (Or.inl ⟨by rfl, (by intro w hSw; go_simp)⟩) (by assumption) ?_
              go_simp
              refine wpAnyH_take (i := 9) (oi := _) (v := .pointer (some ⟨g, p, none⟩)) rfl (by kernel_rfl) (by kernel_rfl) (by kernel_rfl) (fun _ _ _ h => h) (Or.inl ⟨by rfl, (by intro w hSw; go_simp)⟩) (by assumption) ?_
              go_simp
              refine wpAnyH_ready (rs := [10]) (by kernel_rfl) (by simp) ?_
              refine AllReadyH.cons (o := _) rfl (fun K hK => ?_) AllReadyH.nil
              go_simp
              refine hK.out _ _ (trivial) (fun hHeld10x => ?_)
              clear hK K
              go_simp
              refine wpAnyH_done (by kernel_rfl) ?_ _
              have HF3 : Hid (FlR w0 g 0 N (mix N hs i ((p : Int) + 1)) ((wr.setCell ⟨g, p, none⟩ (.int .i64 h4)).drew)) := by
                refine ⟨?_, (unhide hF).2.1.trans ((((unhide HFR) (.int .i64 h4)).mono (fun _ _ e => e)).below (unhide hF).2.1.size (fun q hq e => by have := (unhide hF).2.2; omega)), (unhide hF).2.2⟩
                rw [unhide HST, unhide emx]
                have := unhide HPUT h4
                rw [Nat.zero_add] at this
                exact this
              have HX1' : Hid (((wr.setCell ⟨g, p, none⟩ (.int .i64 h4)).drew).cell? ⟨bx, 1, none⟩ = some (.int .i64 t1)) := ((unhide HFR (.int .i64 h4)).cell (a := ⟨bx, 1, none⟩) lx (by show ¬ bx = g; have := unhide hbg; omega)).trans x1
              have HX3' : Hid (((wr.setCell ⟨g, p, none⟩ (.int .i64 h4)).drew).cell? ⟨bx, 3, none⟩ = some (.int .i64 h4)) := ((unhide HFR (.int .i64 h4)).cell (a := ⟨bx, 3, none⟩) lx (by show ¬ bx = g; have := unhide hbg; omega)).trans kh3
              obtain ⟨Wz, eWz⟩ : ∃ Wz, Wz = (wr.setCell ⟨g, p, none⟩ (.int .i64 h4)).drew := ⟨_, rfl⟩
              rw [← eWz] at HF3 HX1' HX3' ⊢
              clear eWz
              go_wp2_with fail
              go_roundg (gk - 1)
              case measure => have := unhide hp; omega
              case rel => exact ⟨(p : Int) + 1, by have := unhide hp; unfold Hid; omega, by go_num, HF3, HX1', HX3'⟩
          · have emx : Hid (max y h4 = y) := by unfold Hid; omega
            refine wp_region_held_drew (S := (fun _ => True)) (by kernel_rfl) (trivial) (fun hHeld => ?_)
            refine wpAnyH_take (i := 0) (oi := _) (v := .slice (some ⟨g, 0, none⟩) N N) rfl (by kernel_rfl) (by kernel_rfl) (by kernel_rfl) (fun _ _ _ h => h) (Or.inl ⟨by rfl, (by intro w hSw; go_simp)⟩) (by assumption) ?_
            go_simp
            refine wpAnyH_take (i := 1) (oi := _) (v := .int .i64 (p : Int)) rfl (by kernel_rfl) (by kernel_rfl) (by kernel_rfl) (fun _ _ _ h => h) (Or.inl ⟨by rfl, (by intro w hSw; go_simp)⟩) (by assumption) ?_
            go_simp
            refine wpAnyH_take (i := 2) (oi := _) (v := .slice (some ⟨g, 0, none⟩) N N) rfl (by kernel_rfl) (by kernel_rfl) (by kernel_rfl) (fun _ _ _ h => h) (Or.inl ⟨by rfl, (by intro w hSw; go_simp)⟩) (by assumption) ?_
            go_simp
            refine wpAnyH_take (i := 3) (oi := _) (v := .int .i64 (p : Int)) rfl (by kernel_rfl) (by kernel_rfl) (by kernel_rfl) (fun _ _ _ h => h) (Or.inl ⟨by rfl, (by intro w hSw; go_simp)⟩) (by assumption) ?_
            go_simp
            refine wpAnyH_take (i := 4) (oi := _) (v := .pointer (some ⟨g, p, none⟩)) rfl (by kernel_rfl) (by kernel_rfl) (by kernel_rfl) (fun _ _ _ h => h) (Or.inl ⟨by rfl, (by intro w hSw; go_simp)⟩) (by assumption) ?_
            go_simp
            refine wpAnyH_take (i := 6) (oi := _) (v := .pointer (some ⟨bx, 3, none⟩)) rfl (by kernel_rfl) (by kernel_rfl) (by kernel_rfl) (fun _ _ _ h => h) (Or.inl ⟨by rfl, (by intro w hSw; go_simp)⟩) (by assumption) ?_
            go_simp
            refine wpAnyH_ready (rs := [5, 7]) (by kernel_rfl) (by simp) ?_
            refine AllReadyH.cons (o := _) rfl (fun K hK => ?_) (AllReadyH.cons (o := _) rfl (fun K hK => ?_) AllReadyH.nil)
            · go_simp
              refine hK.out _ _ (trivial) (fun hHeld5x => ?_)
              clear hK K
              go_simp
              refine wpAnyH_ready (rs := [7]) (by kernel_rfl) (by simp) ?_
              refine AllReadyH.cons (o := _) rfl (fun K hK => ?_) AllReadyH.nil
              go_simp
              refine hK.out _ _ (trivial) (fun hHeld7x => ?_)
              clear hK K
              go_simp
              refine wpAnyH_take (i := 8) (oi := _) (v := .int .i64 y) rfl (by kernel_rfl) (by kernel_rfl) (by kernel_rfl) (fun _ _ _ h => h) (Or.inl ⟨by rfl, (by intro w hSw; go_simp)⟩) (by assumption) ?_
              go_simp
              refine wpAnyH_take (i := 9) (oi := _) (v := .pointer (some ⟨g, p, none⟩)) rfl (by kernel_rfl) (by kernel_rfl) (by kernel_rfl) (fun _ _ _ h => h) (Or.inl ⟨by rfl, (by intro w hSw; go_simp)⟩) (by assumption) ?_
              go_simp
              refine wpAnyH_ready (rs := [10]) (by kernel_rfl) (by simp) ?_
              refine AllReadyH.cons (o := _) rfl (fun K hK => ?_) AllReadyH.nil
              go_simp
              refine hK.out _ _ (trivial) (fun hHeld10x => ?_)
              clear hK K
              go_simp
              refine wpAnyH_done (by kernel_rfl) ?_ _
              have HF3 : Hid (FlR w0 g 0 N (mix N hs i ((p : Int) + 1)) ((wr.setCell ⟨g, p, none⟩ (.int .i64 y)).drew)) := by
                refine ⟨?_, (unhide hF).2.1.trans ((((unhide HFR) (.int .i64 y)).mono (fun _ _ e => e)).below (unhide hF).2.1.size (fun q hq e => by have := (unhide hF).2.2; omega)), (unhide hF).2.2⟩
                rw [unhide HST, unhide emx]
                have := unhide HPUT y
                rw [Nat.zero_add] at this
                exact this
              have HX1' : Hid (((wr.setCell ⟨g, p, none⟩ (.int .i64 y)).drew).cell? ⟨bx, 1, none⟩ = some (.int .i64 t1)) := ((unhide HFR (.int .i64 y)).cell (a := ⟨bx, 1, none⟩) lx (by show ¬ bx = g; have := unhide hbg; omega)).trans x1
              have HX3' : Hid (((wr.setCell ⟨g, p, none⟩ (.int .i64 y)).drew).cell? ⟨bx, 3, none⟩ = some (.int .i64 h4)) := ((unhide HFR (.int .i64 y)).cell (a := ⟨bx, 3, none⟩) lx (by show ¬ bx = g; have := unhide hbg; omega)).trans kh3
              obtain ⟨Wz, eWz⟩ : ∃ Wz, Wz = (wr.setCell ⟨g, p, none⟩ (.int .i64 y)).drew := ⟨_, rfl⟩
              rw [← eWz] at HF3 HX1' HX3' ⊢
              clear eWz
              go_wp2_with fail
              go_roundg (gk - 1)
              case measure => have := unhide hp; omega
              case rel => exact ⟨(p : Int) + 1, by have := unhide hp; unfold Hid; omega, by go_num, HF3, HX1', HX3'⟩
            · go_simp
              refine hK.out _ _ (trivial) (fun hHeld7x => ?_)
              clear hK K
              go_simp
              refine wpAnyH_ready (rs := [5]) (by kernel_rfl) (by simp) ?_
              refine AllReadyH.cons (o := _) rfl (fun K hK => ?_) AllReadyH.nil
              go_simp
              refine hK.out _ _ (trivial) (fun hHeld5x => ?_)
              clear hK K
              go_simp
              refine wpAnyH_take (i := 8) (oi := _) (v := .int .i64 y) rfl (by kernel_rfl) (by kernel_rfl) (by kernel_rfl) (fun _ _ _ h => h) (Or.inl ⟨by rfl, (by intro w hSw; go_simp)⟩) (by assumption) ?_
              go_simp
              refine wpAnyH_take (i := 9) (oi := _) (v := .pointer (some ⟨g, p, none⟩)) rfl (by kernel_rfl) (by kernel_rfl) (by kernel_rfl) (fun _ _ _ h => h) (Or.inl ⟨by rfl, (by intro w hSw; go_simp)⟩) (by assumption) ?_
              go_simp
              refine wpAnyH_ready (rs := [10]) (by kernel_rfl) (by simp) ?_
              refine AllReadyH.cons (o := _) rfl (fun K hK => ?_) AllReadyH.nil
              go_simp
              refine hK.out _ _ (trivial) (fun hHeld10x => ?_)
              clear hK K
              go_simp
              refine wpAnyH_done (by kernel_rfl) ?_ _
              have HF3 : Hid (FlR w0 g 0 N (mix N hs i ((p : Int) + 1)) ((wr.setCell ⟨g, p, none⟩ (.int .i64 y)).drew)) := by
                refine ⟨?_, (unhide hF).2.1.trans ((((unhide HFR) (.int .i64 y)).mono (fun _ _ e => e)).below (unhide hF).2.1.size (fun q hq e => by have := (unhide hF).2.2; omega)), (unhide hF).2.2⟩
                rw [unhide HST, unhide emx]
                have := unhide HPUT y
                rw [Nat.zero_add] at this
                exact this
              have HX1' : Hid (((wr.setCell ⟨g, p, none⟩ (.int .i64 y)).drew).cell? ⟨bx, 1, none⟩ = some (.int .i64 t1)) := ((unhide HFR (.int .i64 y)).cell (a := ⟨bx, 1, none⟩) lx (by show ¬ bx = g; have := unhide hbg; omega)).trans x1
              have HX3' : Hid (((wr.setCell ⟨g, p, none⟩ (.int .i64 y)).drew).cell? ⟨bx, 3, none⟩ = some (.int .i64 h4)) := ((unhide HFR (.int .i64 y)).cell (a := ⟨bx, 3, none⟩) lx (by show ¬ bx = g; have := unhide hbg; omega)).trans kh3
              obtain ⟨Wz, eWz⟩ : ∃ Wz, Wz = (wr.setCell ⟨g, p, none⟩ (.int .i64 y)).drew := ⟨_, rfl⟩
              rw [← eWz] at HF3 HX1' HX3' ⊢
              clear eWz
              go_wp2_with fail
              go_roundg (gk - 1)
              case measure => have := unhide hp; omega
              case rel => exact ⟨(p : Int) + 1, by have := unhide hp; unfold Hid; omega, by go_num, HF3, HX1', HX3'⟩
        · have hmE : Hid (mix N hs i p0 = fls N (hs.take (i + 1))) := mix_end N (unhide HHI) (by show t1 ≤ p0; omega)
          have hF2 : Hid (FlR w0 g 0 N (fls N (hs.take (i + 1))) wr) := by rw [← unhide hmE]; exact hF
          clear hF
          go_wp2_with fail
          go_roundg (G - 1)
          case measure => have := unhide hG; have := unhide hi; omega
          case rel => exact ⟨i + 1, by have := unhide hi; unfold Hid; omega, by go_num, hF2⟩
    · have hiL : i = HL := by have := unhide hi; omega
      have hE := unhide hF
      rw [List.take_of_length_le (by rw [unhide hHL]; omega)] at hE
      have HE := hide hE
      clear hF hE
      go_wp2_with fail
      go_ret
      exact ⟨g, rfl, (unhide HE).1, (unhide HW0).trans ((unhide HE).2.1.mono (by have := unhide hs0; omega)), by have := unhide hgw; omega⟩

set_option linter.unusedVariables false
set_option linter.unusedSimpArgs false
theorem Tryz.info112v : (Tryz.prog.info? 112).map (fun i => (i.zero, i.size, i.bytes)) = some (some (.agg #[.int .i64 0, .int .i64 0, .int .i64 0, .int .i64 0]), 4, 32) := by kernel_rfl
theorem nil_eq38 (c : Nat) (W : World) : (binOp .eql 71 (.slice none 0 c) (.slice none 0 0)).run Tryz.prog W = .ok (.bool true) W := by kernel_rfl
theorem nil_ne38 (a : Addr) (n c : Nat) (W : World) : (binOp .eql 71 (.slice (some a) n c) (.slice none 0 0)).run Tryz.prog W = .ok (.bool false) W := by kernel_rfl
theorem clone_app {w : World} {b off hc : Nat} {hs : List Hd} (hN : hs.length ≤ 1048576) (h0 : 0 < hs.length) (hb : b < w.heap.size) (hcell : ∀ j, j < hs.length * 4 → w.cell? ⟨b, off + j, none⟩ = (flt enH hs)[j]?) :
    ∃ v' w', (Builtin.append_ #[71, 71] 71 #[.slice (some ⟨w.heap.size, 0, none⟩) 0 0, .slice (some ⟨b, off, none⟩) hs.length hc]).run Tryz.prog (w.alloc (.cells #[] 112)) = .ok v' w' ∧ Hid (Ro w' 4 v' hs.length (flt enH hs) ∧ Below w.heap.size w w' ∧ ∀ k, v'.ownBlock = some k → w.heap.size ≤ k) := by
  obtain ⟨i0, hi0, hz0, hz1, hz2⟩ := info_parts Tryz.info112v
  have hr : Ro (w.alloc (.cells #[] 112)) 4 (.slice (some ⟨w.heap.size, 0, none⟩) 0 0) 0 [] := ⟨by simp, .inr ⟨w.heap.size, 0, 0, #[], 112, rfl, heap_alloc_new w _, Nat.le_refl _, Nat.zero_le _, by simp, fun j hj => by omega⟩⟩
  have hB : Below w.heap.size w (w.alloc (.cells #[] 112)) := (Below.refl _ _).alloc (Nat.le_refl _) _
  have hl := flt_length zH hs
  obtain ⟨v', w', hrun, k1, k2, k3⟩ := Ro.app (P := Tryz.prog) 71 71 112 i0 _ 4 32 Tryz.underlying71 hi0 hz0 hz1 hz2 rfl (by decide) hr ⟨b, off, none⟩ hs.length hc (flt enH hs) hl (fun j u hu => by
    have hj : j < hs.length * 4 := by have := (List.getElem?_eq_some_iff.1 hu).1; omega
    rw [Go.WideShapes.add_plain]
    exact (hB.cell (p := ⟨b, off + j, none⟩) hb).trans ((hcell j hj).trans hu)) (fun u hu => by
    obtain ⟨h, hh, hu2⟩ := List.mem_flatMap.1 hu
    simp only [enH, List.mem_cons, List.not_mem_nil, or_false] at hu2
    rcases hu2 with rfl | rfl | rfl | rfl <;> rfl) h0 (by unfold maxLen; omega) (by omega)
  rw [Nat.zero_add, List.nil_append] at k1
  refine ⟨v', w', hrun, k1, hB.trans ⟨k2.os, k2.tape, k2.output, k2.size, fun k hk => k2.block k (by simp; omega) (by simp [Value.ownBlock]; omega)⟩, fun k hk => ?_⟩
  rcases k3 with q | q
  · rw [q] at hk; simp [Value.ownBlock] at hk; omega
  · rw [q] at hk; simp at hk; omega
theorem clone_app0 (w : World) (a : Addr) (c : Nat) : (Builtin.append_ #[71, 71] 71 #[.slice (some ⟨w.heap.size, 0, none⟩) 0 0, .slice (some a) 0 c]).run Tryz.prog (w.alloc (.cells #[] 112)) = .ok (.slice (some ⟨w.heap.size, 0, none⟩) 0 0) (w.alloc (.cells #[] 112)) := by
  kernel_rfl
theorem wpList_appRun {w w' : World} {ops : Array Oper} {rest : List Oper} {o : Oper} {a : Act} {Q : Exit → Act → World → Prop} {v u v' : Value} {t : TypeId}
    (hg : o.guard = none) (s x : Operand) (hop : o.op = Op.call { callee := Callee.builtin Builtin.append, args := #[s, x], argTypes := #[t, t] }) (hs : a.eval s = v) (hx : a.eval x = u)
    (hrun : (Builtin.append_ #[t, t] o.type #[v, u]).run Tryz.prog w = .ok v' w') (hK : wpList Tryz.prog ops Q rest (a.put o.dst v') w') : wpList Tryz.prog ops Q (o :: rest) a w := by
  refine wpList_plain hg fun K hK' => ?_
  unfold Oper.wp
  simp [execOp, hop, resolve, invoke, builtin, hs, hx, hrun, Result.andThen]
  exact hK' _ _ hK
set_option maxRecDepth 100000 in
set_option maxHeartbeats 1600000 in
theorem cloneH_any {w : World} {hv : Value} {hs : List Hd} (hN : hs.length ≤ 1048576) (hh : Rx w 4 hv hs.length (flt enH hs)) :
    Calls Tryz.prog 103 #[hv] w fun e w' => ∃ v', e = .returned v' ∧ Ro w' 4 v' hs.length (flt enH hs) ∧ Below w.heap.size w w' ∧ ∀ k, v'.ownBlock = some k → w.heap.size ≤ k := by
  obtain ⟨_, ha, hc, rfl, hlc, hcm, hcell⟩ := hh
  cases ha with
  | none =>
    have h0 : hs.length = 0 := by
      by_cases q : 0 < hs.length
      · obtain ⟨_, _, e, _⟩ := hcell q; cases e
      · omega
    have hnil : hs = [] := List.eq_nil_of_length_eq_zero h0
    subst hnil
    have hq := nil_eq38 hc w
    simp only [List.length_nil] at hq ⊢
    clear hlc hcm hcell h0
    go_enter Tryz.func103, Tryz.ntmps103
    go_wp2_with fail
    go_ret
    exact ⟨_, rfl, by simpa [flt] using Ro.nil w 4, Below.refl _ _, by simp [Value.ownBlock]⟩
  | some a =>
    have hq := nil_ne38 a hs.length hc w
    by_cases h0 : 0 < hs.length
    · obtain ⟨b, off, e, hb, hc2⟩ := hcell h0
      cases e
      obtain ⟨v', w', hrun, HV⟩ := clone_app (hc := hc) hN h0 hb hc2
      have HRUN := hide hrun
      clear hcell hc2 h0 hrun
      go_enter Tryz.func103, Tryz.ntmps103
      go_wp2_with (first | (at_builtin; refine wpList_appRun rfl _ _ rfl rfl rfl (unhide HRUN) ?_))
      go_ret
      exact ⟨v', rfl, unhide HV⟩
    · have hnil : hs = [] := List.eq_nil_of_length_eq_zero (by omega)
      subst hnil
      have HRUN := hide (clone_app0 w a hc)
      simp only [List.length_nil] at hq ⊢
      clear hlc hcm hcell h0
      go_enter Tryz.func103, Tryz.ntmps103
      go_wp2_with (first | (at_builtin; refine wpList_appRun rfl _ _ rfl rfl rfl (unhide HRUN) ?_))
      go_ret
      exact ⟨_, rfl, ⟨by simp [flt], .inr ⟨w.heap.size, 0, 0, #[], 112, rfl, heap_alloc_new w _, Nat.le_refl _, Nat.zero_le _, by simp, fun j hj => by simp at hj⟩⟩, (Below.refl _ _).alloc (Nat.le_refl _) _, by simp [Value.ownBlock]⟩
end Go.Proofs.YtlogmdldjmkkjaaGreatDoor
