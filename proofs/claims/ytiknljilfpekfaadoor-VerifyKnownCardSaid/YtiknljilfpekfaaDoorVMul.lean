/-
  One times a number, as math/bits has it.
-/
import Derived.Test.YtiknljilfpekfaaDoorPRow
namespace Go.Proofs.YtiknljilfpekfaaDoor
open Go.RowKit
set_option linter.unusedVariables false
set_option linter.unusedSimpArgs false
/-- A number as its cell. -/
def enN (x : Int) : List Value := [.int .i64 x]
theorem zN : ∀ p, (enN p).length = 1 := fun _ => rfl

theorem Tryd.info3 : (Tryd.prog.info? 3).map (fun i => (i.zero, i.size, i.bytes)) = some (some (.int .i64 0), 1, 8) := by kernel_rfl
/-- Numbers that can be read. -/
def Rn (w : World) (v : Value) (xs : List Int) : Prop := Rx w 1 v xs.length (flt enN xs)
theorem Rn.at {w : World} {v : Value} {xs : List Int} (h : Rn w v xs) {i : Nat} {x : Int} (hx : xs[i]? = some x) :
    ∃ b off cap, v = .slice (some ⟨b, off, none⟩) xs.length cap ∧ b < w.heap.size ∧ w.cell? ⟨b, off + i, none⟩ = some (.int .i64 x) := by
  obtain ⟨b, off, cap, e, _, _, hb, hc⟩ := Rx.elem zN h hx
  have := hc 0 _ rfl
  rw [Nat.mul_one, Nat.add_zero] at this
  exact ⟨b, off, cap, e, hb, this⟩
theorem Rn.shape {w : World} {v : Value} {xs : List Int} (h : Rn w v xs) : ∃ a cap, v = .slice a xs.length cap ∧ xs.length ≤ cap ∧ cap ≤ maxLen := by
  obtain ⟨_, a, cap, e, h1, h2, _⟩ := h
  exact ⟨a, cap, e, h1, h2⟩
theorem Rn.below {w w' : World} {v : Value} {xs : List Int} {B : Nat} (h : Rn w v xs) (f : Below B w w') (hB : w.heap.size ≤ B) : Rn w' v xs := Rx.below h f hB
theorem Rn.of_ro {w : World} {v : Value} {xs : List Int} (h : Ro w 1 v xs.length (flt enN xs)) : Rn w v xs := Rx.of_ro h
theorem Rn.drewN {w : World} {v : Value} {xs : List Int} (h : Rn w v xs) (k : Nat) : Rn (w.drewN k) v xs := Rx.fr (S := fun _ => False) h (Fr.drewN k) (fun _ _ e => e)
abbrev Gn (w : World) (xs : List Int) (v : Value) (wr : World) : Prop := Gx w 1 enN xs v wr

theorem wpList_appN {w : World} {ops : Array Oper} {rest : List Oper} {o : Oper} {a : Act} {Q : Exit → Act → World → Prop}
    (hg : o.guard = none) (s x : Operand) (hop : o.op = Op.call { callee := Callee.builtin Builtin.append, args := #[s, x], argTypes := #[27, 27] })
    (v : Value) (l : List Int) (hs : a.eval s = v) (hr : Ro w 1 v l.length (flt enN l)) (ad : Addr) (c : Nat) (k : Int) (hx : a.eval x = .slice (some ad) 1 c) (hc : ∀ j u, [Value.int .i64 k][j]? = some u → w.cell? (ad.add j) = some u)
    (hN : l.length < 17592186044416)
    (hK : ∀ v' w', Ro w' 1 v' (l.length + 1) (flt enN l ++ enN k) → w.grownBy w' v.ownBlock → (v'.ownBlock = v.ownBlock ∨ v'.ownBlock = some w.heap.size) → wpList Tryd.prog ops Q rest (a.put o.dst v') w') :
    wpList Tryd.prog ops Q (o :: rest) a w := by
  obtain ⟨i0, hi0, hz0, hz1, hz2⟩ := info_parts Tryd.info3
  exact wpList_app hg s x 27 hop 3 i0 _ 1 8 Tryd.underlying27 hi0 hz0 hz1 hz2 rfl (by decide) v l.length (flt enN l) hs hr ad 1 c [.int .i64 k] hx rfl hc (by simp [Value.oneCell']) (by omega) (by unfold maxLen; omega) (by omega) hK

set_option maxRecDepth 100000 in
set_option maxHeartbeats 3200000 in
theorem sameN_any {w : World} {u v : Value} {l : List Int} (hu : Rn w u l) (hv : Rn w v l) :
    Calls Tryd.prog 7 #[u, v] w fun e w' => e = .returned (.bool true) ∧ ∃ k, w' = w.drewN k := by
  have HU := hide (fun i p (hp : l[i]? = some p) => hu.at hp)
  have HV := hide (fun i p (hp : l[i]? = some p) => hv.at hp)
  obtain ⟨ua, uc, rfl, _, um⟩ := hu.shape
  obtain ⟨va, vc, rfl, _⟩ := hv.shape
  obtain ⟨L, hL⟩ : ∃ L, Hid (l.length = L) := ⟨_, rfl⟩
  have hLm : L ≤ maxLen := by rw [← unhide hL]; omega
  unfold maxLen at hLm
  rw [unhide hL] at HU HV ⊢
  clear hu hv um
  have d0 : (((L : Nat) : Int) != (L : Int)) = false := by simp
  go_enter Tryd.func7, Tryd.ntmps7
  go_wp2_with fail
  go_loopg [5] L (fun gg t5 wr => ∃ (i : Nat), Hid (i + gg = L) ∧ t5 = .int .i64 (i : Int) ∧ Hid (∃ k, wr = w.drewN k))
  case atStart => exact ⟨0, by unfold Hid; omega, rfl, 0, rfl⟩
  case round =>
    obtain ⟨i, hi, rfl, hB⟩ := hrel
    by_cases hlt : i < L
    · have hil : i < l.length := by rw [unhide hL]; exact hlt
      obtain ⟨p, hp⟩ : ∃ p, l[i]? = some p := ⟨_, List.getElem?_eq_getElem hil⟩
      obtain ⟨b, so, c', e, hb, c0⟩ := unhide HU i p hp
      cases e
      obtain ⟨g, off, cap, e, hg, q0⟩ := unhide HV i p hp
      cases e
      have fd : Fr (fun _ => False) w wr := by obtain ⟨k, e⟩ := unhide hB; rw [e]; exact Fr.drewN k
      have lb := Nat.lt_of_lt_of_le hb fd.size
      have lg := Nat.lt_of_lt_of_le hg fd.size
      have k0 := (fd.cell (a := ⟨b, so + i, none⟩) hb (fun e => e)).trans c0
      have r0 := (fd.cell (a := ⟨g, off + i, none⟩) hg (fun e => e)).trans q0
      have i0 : (0 : Int) ≤ (i : Int) := by omega
      have i1 : (i : Int) < (L : Int) := by omega
      clear c0 q0 hp hb hg fd
      go_wp2_with fail
      go_quiet (fail)
      go_wp2_with fail
      go_roundg (gk - 1)
      case measure => have := unhide hi; omega
      case rel => exact ⟨i + 1, by have := unhide hi; unfold Hid; omega, by go_num, by obtain ⟨k, e⟩ := unhide hB; exact ⟨k + nq, by rw [e, World.drewN_drewN]⟩⟩
    · have hiL : i = L := by have := unhide hi; omega
      subst hiL
      obtain ⟨k, rfl⟩ := unhide hB
      go_wp2_with fail
      go_ret
      exact ⟨rfl, k, rfl⟩

/-- The greatest. -/
def mxl : List Int → Int
  | [] => 0
  | x :: r => r.foldl max x
theorem mxl_push {xs : List Int} {i : Nat} {x : Int} (h0 : 0 < i) (hx : xs[i]? = some x) : mxl (xs.take (i + 1)) = max (mxl (xs.take i)) x := by
  rw [take_push hx]
  cases xs with
  | nil => simp at hx
  | cons y r =>
    cases i with
    | zero => omega
    | succ i => simp [mxl, List.foldl_append]
set_option maxRecDepth 100000 in
set_option maxHeartbeats 1600000 in
theorem max_any {w : World} {v : Value} {l : List Int} (h : Rn w v l) (h0 : 0 < l.length) :
    Calls Tryd.prog 12 #[v] w fun e w' => e = .returned (.int .i64 (mxl l)) ∧ w' = w := by
  have HU := hide (fun i p (hp : l[i]? = some p) => h.at hp)
  obtain ⟨ua, uc, rfl, _, um⟩ := h.shape
  obtain ⟨L, hL⟩ : ∃ L, Hid (l.length = L) := ⟨_, rfl⟩
  have hLm : L ≤ maxLen := by rw [← unhide hL]; omega
  unfold maxLen at hLm
  obtain ⟨R, hR⟩ : ∃ R, Hid (mxl l = R) := ⟨_, rfl⟩
  rw [unhide hR]
  rw [unhide hL] at HU h0 ⊢
  clear h um
  obtain ⟨x0, hx0⟩ : ∃ x, l[0]? = some x := ⟨_, List.getElem?_eq_getElem (by rw [unhide hL]; exact h0)⟩
  obtain ⟨b, so, c', e, hb, c0⟩ := unhide HU 0 x0 hx0
  cases e
  have i1 : (1 : Int) ≤ (L : Int) := by omega
  have i2 : (0 : Int) < (L : Int) := by omega
  have hm1 : Hid (mxl (l.take 1) = x0) := by
    unfold Hid
    cases l with
    | nil => simp at hx0
    | cons y r => simp at hx0; simp [mxl, hx0]
  rw [Nat.add_zero] at c0
  clear hx0
  go_enter Tryd.func12, Tryd.ntmps12
  go_wp2_with fail
  go_loopg [3, 4] L (fun gg t3 t4 wr => ∃ (i : Nat) (m : Int), Hid (i + gg = L + 1 ∧ 1 ≤ i ∧ i ≤ L) ∧ t3 = .int .i64 m ∧ t4 = .int .i64 (i : Int) ∧ Hid (mxl (l.take i) = m) ∧ wr = w)
  case atStart => exact ⟨1, x0, by unfold Hid; omega, rfl, rfl, hm1, rfl⟩
  case round =>
    obtain ⟨i, m, hi, rfl, rfl, hM, rfl⟩ := hrel
    clear c0
    by_cases hlt : i < L
    · obtain ⟨p, hp⟩ : ∃ p, l[i]? = some p := ⟨_, List.getElem?_eq_getElem (by rw [unhide hL]; exact hlt)⟩
      obtain ⟨b', so', c'', e, hb', c1⟩ := unhide HU i p hp
      cases e
      have i0 : (0 : Int) ≤ (i : Int) := by omega
      have i1 : (i : Int) < (L : Int) := by omega
      have hM2 : Hid (mxl (l.take (i + 1)) = max m p) := by unfold Hid; rw [mxl_push (by have := (unhide hi).2.1; omega) hp, unhide hM]
      clear hp
      by_cases hmp : m < p
      · have e : max m p = p := by omega
        rw [e] at hM2
        go_wp2_with fail
        go_roundg (gk - 1)
        case measure => have := unhide hi; omega
        case rel => exact ⟨i + 1, _, by have := unhide hi; unfold Hid; omega, rfl, by go_num, hM2, rfl⟩
      · have e : max m p = m := by omega
        rw [e] at hM2
        go_wp2_with fail
        go_roundg (gk - 1)
        case measure => have := unhide hi; omega
        case rel => exact ⟨i + 1, _, by have := unhide hi; unfold Hid; omega, rfl, by go_num, hM2, rfl⟩
    · have hiL : i = L := by have := unhide hi; omega
      have hmR : m = R := by rw [← unhide hM, ← unhide hR, List.take_of_length_le (by rw [unhide hL]; omega)]
      subst hmR
      have i1 : ¬ (i : Int) < (L : Int) := by omega
      go_wp2_with fail
      go_ret
      exact ⟨rfl, rfl⟩
/-- Where a number stands first; -1: nowhere. -/
def ixl (xs : List Int) (x : Int) : Int := match xs.findIdx? (· == x) with | some i => (i : Int) | none => -1
theorem ixl_hit {xs : List Int} {x : Int} {i : Nat} (h : xs[i]? = some x) (hno : ∀ j y, j < i → xs[j]? = some y → y ≠ x) : ixl xs x = (i : Int) := by
  unfold ixl
  have : xs.findIdx? (· == x) = some i := by
    rw [List.findIdx?_eq_some_iff_getElem]
    obtain ⟨hi, e⟩ := List.getElem?_eq_some_iff.1 h
    refine ⟨hi, by simp [e], fun j hj => ?_⟩
    have := hno j _ hj (List.getElem?_eq_getElem (by omega))
    simp [this]
  rw [this]
theorem ixl_miss {xs : List Int} {x : Int} (hno : ∀ j y, j < xs.length → xs[j]? = some y → y ≠ x) : ixl xs x = -1 := by
  unfold ixl
  have : xs.findIdx? (· == x) = none := by
    rw [List.findIdx?_eq_none_iff]
    intro y hy
    obtain ⟨j, hj, e⟩ := List.getElem_of_mem hy
    have := hno j y hj (by rw [← e]; exact List.getElem?_eq_getElem hj)
    simp [this]
  rw [this]
set_option maxRecDepth 100000 in
set_option maxHeartbeats 1600000 in
theorem index_any {w : World} {v : Value} {l : List Int} (x : Int) (h : Rn w v l) :
    Calls Tryd.prog 21 #[v, .int .i64 x] w fun e w' => e = .returned (.int .i64 (ixl l x)) ∧ w' = w := by
  have HU := hide (fun i p (hp : l[i]? = some p) => h.at hp)
  obtain ⟨ua, uc, rfl, _, um⟩ := h.shape
  obtain ⟨L, hL⟩ : ∃ L, Hid (l.length = L) := ⟨_, rfl⟩
  have hLm : L ≤ maxLen := by rw [← unhide hL]; omega
  unfold maxLen at hLm
  obtain ⟨R, hR⟩ : ∃ R, Hid (ixl l x = R) := ⟨_, rfl⟩
  rw [unhide hR]
  rw [unhide hL] at HU ⊢
  clear h um
  go_enter Tryd.func21, Tryd.ntmps21
  go_wp2_with fail
  go_loopg [5, 8] L (fun gg t5 t8 wr => ∃ (i : Nat) (u : Value), Hid (i + gg = L) ∧ t5 = u ∧ t8 = .int .i64 (i : Int) ∧ Hid (∀ j y, j < i → l[j]? = some y → y ≠ x) ∧ wr = w)
  case atStart => exact ⟨0, _, by unfold Hid; omega, rfl, rfl, by unfold Hid; intro j y hj; omega, rfl⟩
  case round =>
    obtain ⟨i, u, hi, rfl, rfl, hno, rfl⟩ := hrel
    by_cases hlt : i < L
    · obtain ⟨p, hp⟩ : ∃ p, l[i]? = some p := ⟨_, List.getElem?_eq_getElem (by rw [unhide hL]; exact hlt)⟩
      obtain ⟨b', so', c'', e, hb', c1⟩ := unhide HU i p hp
      cases e
      have i0 : (0 : Int) ≤ (i : Int) := by omega
      have i1 : (i : Int) < (L : Int) := by omega
      have HP := hide hp
      clear hp
      by_cases he : x = p
      · subst he
        have hRi : R = (i : Int) := by rw [← unhide hR]; exact ixl_hit (unhide HP) (unhide hno)
        subst hRi
        go_wp2_with fail
        go_ret
        exact ⟨rfl, rfl⟩
      · have hne : (x == p) = false := by simpa using he
        go_wp2_with fail
        go_roundg (gk - 1)
        case measure => have := unhide hi; omega
        case rel => exact ⟨i + 1, _, by have := unhide hi; unfold Hid; omega, rfl, by go_num, by
          unfold Hid
          intro j y hj hy
          by_cases q : j = i
          · subst q; rw [unhide HP] at hy; cases hy; exact fun e => he e.symm
          · exact unhide hno j y (by omega) hy, rfl⟩
    · have hRi : R = -1 := by rw [← unhide hR]; exact ixl_miss (fun j y hj hy => unhide hno j y (by have := unhide hi; rw [unhide hL] at hj; omega) hy)
      subst hRi
      have i1 : ¬ (i : Int) < (L : Int) := by omega
      go_wp2_with fail
      go_ret
      exact ⟨rfl, rfl⟩

set_option linter.unusedVariables false
set_option linter.unusedSimpArgs false
theorem band32 (n : Nat) (h : n < 4294967296) : bits .and .u64 (n : Int) 4294967295 = (n : Int) := by
  have e : bits .and .u64 (n : Int) 4294967295 = ((n % 4294967296 : Nat) : Int) := by go_bits2
  rw [e]; omega
set_option maxRecDepth 100000 in
set_option maxHeartbeats 1600000 in
theorem mul64_one (w : World) (n : Nat) (h : n ≤ 1048576) : Calls Tryd.prog 40 #[.int .u64 1, .int .u64 (n : Int)] w fun e w' => e = .returned (.tuple #[.int .u64 0, .int .u64 (n : Int)]) ∧ w' = w := by
  have a1 : bits .and .u64 (n : Int) 4294967295 = (n : Int) := band32 n (by omega)
  have a2 : bits .and .u64 1 4294967295 = 1 := band32 1 (by omega)
  have a3 : bits .and .u64 0 4294967295 = 0 := band32 0 (by omega)
  have a4 : (n : Int) / 4294967296 = 0 := by omega
  have a5 : (0 : Int) / 4294967296 = 0 := by decide
  have a6 : (1 : Int) / 4294967296 = 0 := by decide
  have a7 : IntKind.u64.wrap ((n : Int)) = (n : Int) := by go_arith
  go_enter Tryd.func40, Tryd.ntmps40
  go_wp2_with fail
  go_ret2
  exact ⟨rfl, rfl⟩
set_option maxRecDepth 100000 in
set_option maxHeartbeats 1600000 in
theorem mul_one_any (w : World) (n : Nat) (h : n ≤ 1048576) : Calls Tryd.prog 26 #[.int .u64 1, .int .u64 (n : Int)] w fun e w' => e = .returned (.tuple #[.int .u64 0, .int .u64 (n : Int)]) ∧ w' = w := by
  have HM := hide (mul64_one w n h)
  go_enter Tryd.func26, Tryd.ntmps26
  go_wp2_with fail
  refine (unhide HM).mono ?_
  rintro e w1 ⟨rfl, ew⟩
  rw [ew]
  clear ew HM w1
  go_wp2_with fail
  go_ret2
  exact ⟨rfl, rfl⟩
end Go.Proofs.YtiknljilfpekfaaDoor
