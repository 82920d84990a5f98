/-
  Lists of values: copied, lent, kept, held against each other.
-/
import Derived.Test.YtjjfpokmpcpicaaBk7
namespace Go.Proofs.Ytjjfpokmpcpicaa
open Go.RowKit
set_option linter.unusedVariables false
set_option linter.unusedSimpArgs false
theorem Try.info85 : (Try.prog.info? 85).map (fun i => (i.zero, i.size, i.bytes)) = some (some (.agg #[.int .i64 0, .int .i64 0]), 2, 16) := by kernel_rfl
theorem appV {w : World} {ops : Array Oper} {rest : List Oper} {o : Oper} {a : Act} {Q : Exit → Act → World → Prop}
    (hg : o.guard = none) (s x : Operand) (hop : o.op = Op.call { callee := Callee.builtin Builtin.append, args := #[s, x], argTypes := #[36, 36] })
    (v : Value) (l : List (Int × Int)) (hs : a.eval s = v) (hr : Ro w 2 v l.length (flt enI l)) (ad : Addr) (c : Nat) (p : Int × Int) (hx : a.eval x = .slice (some ad) 1 c) (hc : ∀ j u, (enI p)[j]? = some u → w.cell? (ad.add j) = some u)
    (hN : l.length ≤ 8796093022079)
    (hK : ∀ v' w', Ro w' 2 v' (l.length + 1) (flt enI l ++ enI p) → w.grownBy w' v.ownBlock → (v'.ownBlock = v.ownBlock ∨ v'.ownBlock = some w.heap.size) → wpList Try.prog ops Q rest (a.put o.dst v') w') :
    wpList Try.prog ops Q (o :: rest) a w := by
  obtain ⟨i0, hi0, hz0, hz1, hz2⟩ := info_parts Try.info85
  exact wpList_app hg s x 36 hop 85 i0 _ 2 16 Try.underlying36 hi0 hz0 hz1 hz2 rfl (by decide) v l.length (flt enI l) hs hr ad 1 c (enI p) hx rfl hc (by simp [enI, Value.oneCell']) (by omega) (by unfold maxLen; omega) (by omega) hK
def mkV (n : Nat) : List (Int × Int) := (List.range n).map (fun (i : Nat) => ((-9 : Int), (i : Int)))
theorem mkV_succ (n : Nat) : mkV (n + 1) = mkV n ++ [(fun (i : Nat) => ((-9 : Int), (i : Int))) n] := by simp [mkV, List.range_succ]
theorem mkV_length (n : Nat) : (mkV n).length = n := by simp [mkV]
theorem lmV_left (l : List (Int × Int)) (i : Nat) (p : Int × Int) (h : l[i]? = some p) : (l ++ mkV 64)[i]? = some p := by
  rw [List.getElem?_append_left (List.getElem?_eq_some_iff.1 h).1]; exact h
theorem lmV_right (l : List (Int × Int)) (i : Nat) (h1 : l.length ≤ i) (h2 : i < l.length + 64) : (l ++ mkV 64)[i]? = some (-9, (i : Int) - (l.length : Int)) := by
  rw [List.getElem?_append_right h1]
  simp [mkV, List.getElem?_range (show i - l.length < 64 by omega)]
  omega
theorem lmV_length (l : List (Int × Int)) : (l ++ mkV 64).length = l.length + 64 := by rw [List.length_append, mkV_length]
set_option maxRecDepth 100000 in
set_option maxHeartbeats 1600000 in
theorem lentV_any {w : World} {lv : Value} {l : List (Int × Int)} (h : Rx w 2 lv l.length (flt enI l)) (hN : l.length ≤ 8796093021952) :
    Calls Try.prog 26 #[lv] w fun e w' => ∃ v', e = .returned v' ∧ Gx w 2 enI (l ++ mkV 64) v' w' := by
  have HC := hide (fun i p (hp : l[i]? = some p) => h.elem zI hp)
  obtain ⟨_, a, cap, rfl, hlc, hcm, _⟩ := h
  obtain ⟨L, hL⟩ : ∃ L, Hid (l.length = L) := ⟨_, rfl⟩
  rw [unhide hL] at hN hlc HC ⊢
  go_enter Try.func26, Try.ntmps26
  go_wp2_with fail
  go_loopg [3, 4] L (fun g t3 t4 wr => ∃ (i : Nat) (v : Value), Hid (i + g = L) ∧ t3 = v ∧ t4 = .int .i64 (i : Int) ∧ Hid (Gx w 2 enI (l.take i) v wr))
  case atStart => exact ⟨0, _, by unfold Hid; omega, rfl, rfl, ⟨by simpa [flt] using Ro.nil _ _, Below.refl _ _, by simp [Value.ownBlock]⟩⟩
  case round =>
    obtain ⟨i, v, hi, rfl, rfl, hG⟩ := hrel
    by_cases hlt : i < L
    · have hil : i < l.length := by rw [unhide hL]; exact hlt
      obtain ⟨p, hp⟩ : ∃ p, l[i]? = some p := ⟨_, List.getElem?_eq_getElem hil⟩
      obtain ⟨b, off, cap', e, _, _, hb, hcs⟩ := unhide HC i p hp
      cases e
      have hs := (unhide hG).2.1
      have k0 : wr.cell? ⟨b, off + i * 2, none⟩ = some (.int .i64 p.1) := (hs.cell (p := ⟨b, off + i * 2, none⟩) hb).trans (hcs 0 _ rfl)
      have k1 : wr.cell? ⟨b, off + i * 2 + 1, none⟩ = some (.int .i64 p.2) := (hs.cell (p := ⟨b, off + i * 2 + 1, none⟩) hb).trans (hcs 1 _ rfl)
      have hbr := Nat.lt_of_lt_of_le hb hs.size
      have i0 : (0 : Int) ≤ (i : Int) := by omega
      have i1 : (i : Int) < (L : Int) := by omega
      have htl : (l.take i).length = i := by simp; omega
      have HRo := hide (unhide hG).1
      have HP := hide hp
      clear hs hcs hp
      go_wp2_with (first | (at_builtin; refine appV rfl _ _ rfl _ (l.take i) rfl ((unhide HRo).keep (fun g hg => Below.heap_alloc _ _ _ ((unhide HRo).lt g hg))) ⟨wr.heap.size, 0, none⟩ 1 p rfl (new_cells _ _ _) (by rw [htl]; omega) ?_))
      intro v' w' hr hg hat
      have hG2 := (unhide hG).push hr (by rw [htl]) hg (by simpa using hat)
      rw [← take_push (unhide HP)] at hG2
      have HG2 := hide hG2
      clear hr hg hat hG2
      go_wp2_with fail
      go_roundg (gk - 1)
      case measure => have := unhide hi; omega
      case rel => exact ⟨i + 1, v', by have := unhide hi; unfold Hid; omega, rfl, by go_num, HG2⟩
    · have hiL : i = L := by have := unhide hi; omega
      subst hiL
      have hG0 := unhide hG
      rw [List.take_of_length_le (by rw [unhide hL]; exact Nat.le_refl _)] at hG0
      have HG0 := hide (show Gx w 2 enI (l ++ mkV 0) _ wr by simpa [mkV] using hG0)
      clear hG hG0
      go_wp2_with fail
      go_loopg [3, 5] 64 (fun g t3 t5 wr => ∃ (j : Nat) (v : Value), Hid (j + g = 64) ∧ t3 = v ∧ t5 = .int .i64 (j : Int) ∧ Hid (Gx w 2 enI (l ++ mkV j) v wr))
      case atStart => exact ⟨0, _, by unfold Hid; omega, rfl, rfl, HG0⟩
      case round =>
        obtain ⟨j, v2, hj, rfl, rfl, hG⟩ := hrel
        by_cases hlt2 : j < 64
        · have HLEN : Hid ((l ++ mkV j).length ≤ 8796093022079) := by rw [List.length_append, mkV_length, unhide hL]; unfold Hid; omega
          have HRo := hide (unhide hG).1
          have d1 : (j : Int) < 64 := by omega
          go_wp2_with (first | (at_builtin; refine appV rfl _ _ rfl _ (l ++ mkV j) rfl ((unhide HRo).keep (fun g hg => Below.heap_alloc _ _ _ ((unhide HRo).lt g hg))) ⟨(World.heap _).size, 0, none⟩ 1 ((fun (i : Nat) => ((-9 : Int), (i : Int))) j) rfl (new_cells _ _ _) (unhide HLEN) ?_))
          intro v' w' hr hg hat
          have hG2 := (unhide hG).push hr (by simp) hg (by simpa using hat)
          rw [List.append_assoc, ← mkV_succ] at hG2
          have HG2 := hide hG2
          clear hr hg hat hG2
          go_wp2_with fail
          go_roundg (gk - 1)
          case measure => have := unhide hj; omega
          case rel => exact ⟨j + 1, v', by have := unhide hj; unfold Hid; omega, rfl, by go_num, HG2⟩
        · have hj6 : j = 64 := by have := unhide hj; omega
          subst hj6
          go_wp2_with fail
          go_ret
          exact ⟨_, rfl, unhide hG⟩
set_option maxRecDepth 100000 in
set_option maxHeartbeats 3200000 in
theorem keptV_any {w : World} {lv v : Value} {l : List (Int × Int)} (hv : Rx w 2 v (l ++ mkV 64).length (flt enI (l ++ mkV 64))) (h : Rx w 2 lv l.length (flt enI l)) (hN : l.length ≤ 8796093021952) :
    Calls Try.prog 28 #[v, lv] w fun e w' => e = .returned (.bool true) ∧ Below w.heap.size w w' := by
  have HC := hide (fun i p (hp : l[i]? = some p) => h.elem zI hp)
  have HV := hide (fun i p (hp : (l ++ mkV 64)[i]? = some p) => hv.elem zI hp)
  obtain ⟨_, a, cap, rfl, _, _, _⟩ := h
  obtain ⟨_, va, vcap, rfl, _, _, _⟩ := hv
  rw [lmV_length]
  rw [lmV_length] at HV
  obtain ⟨L, hL⟩ : ∃ L, Hid (l.length = L) := ⟨_, rfl⟩
  rw [unhide hL] at hN HC HV ⊢
  have d0 : (((L : Nat) : Int) + 64 != (L : Int) + 64) = false := by simp
  go_enter Try.func28, Try.ntmps28
  go_wp2_with fail
  go_loopg [5] (L + 64) (fun gg t5 wr => ∃ (i : Nat), Hid (i + gg = L + 64) ∧ t5 = .int .i64 (i : Int) ∧ Hid (Below w.heap.size w wr))
  case atStart => exact ⟨0, by unfold Hid; omega, rfl, Below.refl _ _⟩
  case round =>
    obtain ⟨i, hi, rfl, hB⟩ := hrel
    by_cases hlt : i < L + 64
    · by_cases hl2 : i < L
      · have hil : i < l.length := by rw [unhide hL]; exact hl2
        obtain ⟨p, hp⟩ : ∃ p, l[i]? = some p := ⟨_, List.getElem?_eq_getElem hil⟩
        obtain ⟨b, so, _, e1, _, _, hb, c⟩ := unhide HC i p hp
        obtain ⟨g, off, _, e2, _, _, hg, q⟩ := unhide HV i p (lmV_left l i p hp)
        cases e1
        cases e2
        have k0 : wr.cell? ⟨b, so + i * 2, none⟩ = some (.int .i64 p.1) := ((unhide hB).cell (p := ⟨b, so + i * 2, none⟩) hb).trans (c 0 _ rfl)
        have r0 : wr.cell? ⟨g, off + i * 2, none⟩ = some (.int .i64 p.1) := ((unhide hB).cell (p := ⟨g, off + i * 2, none⟩) hg).trans (q 0 _ rfl)
        have k1 : wr.cell? ⟨b, so + i * 2 + 1, none⟩ = some (.int .i64 p.2) := ((unhide hB).cell (p := ⟨b, so + i * 2 + 1, none⟩) hb).trans (c 1 _ rfl)
        have r1 : wr.cell? ⟨g, off + i * 2 + 1, none⟩ = some (.int .i64 p.2) := ((unhide hB).cell (p := ⟨g, off + i * 2 + 1, none⟩) hg).trans (q 1 _ rfl)
        have hbr := Nat.lt_of_lt_of_le hb (unhide hB).size
        have hgr := Nat.lt_of_lt_of_le hg (unhide hB).size
        have i0 : (0 : Int) ≤ (i : Int) := by omega
        have i1 : (i : Int) < (L : Int) := by omega
        have i2 : (i : Int) < (L : Int) + 64 := by omega
        clear c q hp
        have hB2 := hide ((unhide hB).trans (((Below.refl _ wr).alloc (Nat.le_refl _) (.cells #[.int .i64 p.1, .int .i64 p.2] 85)).mono (unhide hB).size))
        go_wp2_with fail
        go_quiet (fail)
        have hB3 := hide ((unhide hB2).trans ((Fr.drewN (S := fun _ => False) nq).below (unhide hB2).size (fun _ _ e => e)))
        go_wp2_with fail
        go_roundg (gk - 1)
        case measure => have := unhide hi; omega
        case rel => exact ⟨i + 1, by have := unhide hi; unfold Hid; omega, by go_num, hB3⟩
      · obtain ⟨g, off, _, e2, _, _, hg, q⟩ := unhide HV i _ (lmV_right l i (by rw [unhide hL]; omega) (by rw [unhide hL]; omega))
        cases e2
        rw [unhide hL] at q
        have r0 : wr.cell? ⟨g, off + i * 2, none⟩ = some (.int .i64 (-9)) := ((unhide hB).cell (p := ⟨g, off + i * 2, none⟩) hg).trans (q 0 _ rfl)
        have r1 : wr.cell? ⟨g, off + i * 2 + 1, none⟩ = some (.int .i64 ((i : Int) - (L : Int))) := ((unhide hB).cell (p := ⟨g, off + i * 2 + 1, none⟩) hg).trans (q 1 _ rfl)
        have hgr := Nat.lt_of_lt_of_le hg (unhide hB).size
        have i0 : (0 : Int) ≤ (i : Int) := by omega
        have i1 : decide ((i : Int) < (L : Int)) = false := decide_eq_false (by omega)
        have i2 : (i : Int) < (L : Int) + 64 := by omega
        clear q
        have hB2 := hide ((unhide hB).trans (((Below.refl _ wr).alloc (Nat.le_refl _) (.cells #[.int .i64 (-9), .int .i64 ((i : Int) - (L : Int))] 85)).mono (unhide hB).size))
        go_wp2_with fail
        go_quiet (fail)
        have hB3 := hide ((unhide hB2).trans ((Fr.drewN (S := fun _ => False) nq).below (unhide hB2).size (fun _ _ e => e)))
        go_wp2_with fail
        go_roundg (gk - 1)
        case measure => have := unhide hi; omega
        case rel => exact ⟨i + 1, by have := unhide hi; unfold Hid; omega, by go_num, hB3⟩
    · have hiL : i = L + 64 := by have := unhide hi; omega
      subst hiL
      go_wp2_with fail
      go_ret
      exact ⟨rfl, unhide hB⟩
theorem oneI (l : List (Int × Int)) : ∀ u ∈ flt enI l, u.oneCell' = true := fun u hu => by
  obtain ⟨x, _, h2⟩ := List.mem_flatMap.1 hu
  simp only [enI, List.mem_cons, List.not_mem_nil, or_false] at h2
  rcases h2 with rfl | rfl <;> rfl
end Go.Proofs.Ytjjfpokmpcpicaa
