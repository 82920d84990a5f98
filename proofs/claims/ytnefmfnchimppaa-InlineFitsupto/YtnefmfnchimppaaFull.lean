/-
  Lists with marks behind them.
-/
import Derived.Test.YtnefmfnchimppaaPRow
namespace Go.Proofs.Ytnefmfnchimppaa
open Go.RowKit
set_option linter.unusedVariables false
theorem Try.info38 : (Try.prog.info? 38).map (fun i => (i.zero, i.size, i.bytes)) = some (some (.agg #[.int .i64 0, .int .i64 0]), 2, 16) := by kernel_rfl
theorem appI {w : World} {ops : Array Oper} {rest : List Oper} {o : Oper} {a : Act} {Q : Exit → Act → World → Prop}
    (hg : o.guard = none) (s x : Operand) (hop : o.op = Op.call { callee := Callee.builtin Builtin.append, args := #[s, x], argTypes := #[31, 31] })
    (v : Value) (l : List (Int × Int)) (hs : a.eval s = v) (hr : Ro w 2 v l.length (flt enI l)) (ad : Addr) (c : Nat) (p : Int × Int) (hx : a.eval x = .slice (some ad) 1 c) (hc : ∀ j u, (enI p)[j]? = some u → w.cell? (ad.add j) = some u)
    (hN : l.length ≤ 8796093022079)
    (hK : ∀ v' w', Ro w' 2 v' (l.length + 1) (flt enI l ++ enI p) → w.grownBy w' v.ownBlock → (v'.ownBlock = v.ownBlock ∨ v'.ownBlock = some w.heap.size) → wpList Try.prog ops Q rest (a.put o.dst v') w') :
    wpList Try.prog ops Q (o :: rest) a w := by
  obtain ⟨i0, hi0, hz0, hz1, hz2⟩ := info_parts Try.info38
  exact wpList_app hg s x 31 hop 38 i0 _ 2 16 Try.underlying31 hi0 hz0 hz1 hz2 rfl (by decide) v l.length (flt enI l) hs hr ad 1 c (enI p) hx rfl hc (by simp [enI, Value.oneCell']) (by omega) (by unfold maxLen; omega) (by omega) hK
def mkI (n : Nat) : List (Int × Int) := (List.range n).map (fun (i : Nat) => ((-7 : Int), (i : Int)))
theorem mkI_succ (n : Nat) : mkI (n + 1) = mkI n ++ [(fun (i : Nat) => ((-7 : Int), (i : Int))) n] := by simp [mkI, List.range_succ]
theorem mkI_length (n : Nat) : (mkI n).length = n := by simp [mkI]
theorem lmI_left (l : List (Int × Int)) (i : Nat) (p : Int × Int) (h : l[i]? = some p) : (l ++ mkI 64)[i]? = some p := by
  rw [List.getElem?_append_left (List.getElem?_eq_some_iff.1 h).1]; exact h
theorem lmI_right (l : List (Int × Int)) (i : Nat) (h1 : l.length ≤ i) (h2 : i < l.length + 64) : (l ++ mkI 64)[i]? = some (-7, (i : Int) - (l.length : Int)) := by
  rw [List.getElem?_append_right h1]
  simp [mkI, List.getElem?_range (show i - l.length < 64 by omega)]
  omega
theorem lmI_length (l : List (Int × Int)) : (l ++ mkI 64).length = l.length + 64 := by rw [List.length_append, mkI_length]
set_option maxRecDepth 100000 in
set_option maxHeartbeats 1600000 in
theorem fullI_any {w : World} {lv : Value} {l : List (Int × Int)} (h : Rx w 2 lv l.length (flt enI l)) (hN : l.length ≤ 8796093021952) :
    Calls Try.prog 8 #[lv] w fun e w' => ∃ v', e = .returned v' ∧ Gx w 2 enI (l ++ mkI 64) v' w' := by
  have HC := hide (fun i p (hp : l[i]? = some p) => h.elem zI hp)
  obtain ⟨_, a, cap, rfl, hlc, hcm, _⟩ := h
  obtain ⟨L, hL⟩ : ∃ L, Hid (l.length = L) := ⟨_, rfl⟩
  rw [unhide hL] at hN hlc HC ⊢
  go_enter Try.func8, Try.ntmps8
  go_wp2_with fail
  go_loopg [3, 4] L (fun g t3 t4 wr => ∃ (i : Nat) (v : Value), Hid (i + g = L) ∧ t3 = v ∧ t4 = .int .i64 (i : Int) ∧ Hid (Gx w 2 enI (l.take i) v wr))
  case atStart => exact ⟨0, _, by unfold Hid; omega, rfl, rfl, ⟨by simpa [flt] using Ro.nil _ _, Below.refl _ _, by simp [Value.ownBlock]⟩⟩
  case round =>
    obtain ⟨i, v, hi, rfl, rfl, hG⟩ := hrel
    by_cases hlt : i < L
    · have hil : i < l.length := by rw [unhide hL]; exact hlt
      obtain ⟨p, hp⟩ : ∃ p, l[i]? = some p := ⟨_, List.getElem?_eq_getElem hil⟩
      obtain ⟨b, off, cap', e, _, _, hb, hcs⟩ := unhide HC i p hp
      cases e
      have hs := (unhide hG).2.1
      have k0 : wr.cell? ⟨b, off + i * 2, none⟩ = some (.int .i64 p.1) := (hs.cell (p := ⟨b, off + i * 2, none⟩) hb).trans (hcs 0 _ rfl)
      have k1 : wr.cell? ⟨b, off + i * 2 + 1, none⟩ = some (.int .i64 p.2) := (hs.cell (p := ⟨b, off + i * 2 + 1, none⟩) hb).trans (hcs 1 _ rfl)
      have hbr := Nat.lt_of_lt_of_le hb hs.size
      have i0 : (0 : Int) ≤ (i : Int) := by omega
      have i1 : (i : Int) < (L : Int) := by omega
      have htl : (l.take i).length = i := by simp; omega
      have HRo := hide (unhide hG).1
      have HP := hide hp
      clear hs hcs hp
      go_wp2_with (first | (at_builtin; refine appI rfl _ _ rfl _ (l.take i) rfl ((unhide HRo).keep (fun g hg => Below.heap_alloc _ _ _ ((unhide HRo).lt g hg))) ⟨wr.heap.size, 0, none⟩ 1 p rfl (new_cells _ _ _) (by rw [htl]; omega) ?_))
      intro v' w' hr hg hat
      have hG2 := (unhide hG).push hr (by rw [htl]) hg (by simpa using hat)
      rw [← take_push (unhide HP)] at hG2
      have HG2 := hide hG2
      clear hr hg hat hG2
      go_wp2_with fail
      go_roundg (gk - 1)
      case measure => have := unhide hi; omega
      case rel => exact ⟨i + 1, v', by have := unhide hi; unfold Hid; omega, rfl, by go_num, HG2⟩
    · have hiL : i = L := by have := unhide hi; omega
      subst hiL
      have hG0 := unhide hG
      rw [List.take_of_length_le (by rw [unhide hL]; exact Nat.le_refl _)] at hG0
      have HG0 := hide (show Gx w 2 enI (l ++ mkI 0) _ wr by simpa [mkI] using hG0)
      clear hG hG0
      go_wp2_with fail
      go_loopg [3, 5] 64 (fun g t3 t5 wr => ∃ (j : Nat) (v : Value), Hid (j + g = 64) ∧ t3 = v ∧ t5 = .int .i64 (j : Int) ∧ Hid (Gx w 2 enI (l ++ mkI j) v wr))
      case atStart => exact ⟨0, _, by unfold Hid; omega, rfl, rfl, HG0⟩
      case round =>
        obtain ⟨j, v2, hj, rfl, rfl, hG⟩ := hrel
        by_cases hlt2 : j < 64
        · have HLEN : Hid ((l ++ mkI j).length ≤ 8796093022079) := by rw [List.length_append, mkI_length, unhide hL]; unfold Hid; omega
          have HRo := hide (unhide hG).1
          have d1 : (j : Int) < 64 := by omega
          go_wp2_with (first | (at_builtin; refine appI rfl _ _ rfl _ (l ++ mkI j) rfl ((unhide HRo).keep (fun g hg => Below.heap_alloc _ _ _ ((unhide HRo).lt g hg))) ⟨(World.heap _).size, 0, none⟩ 1 ((fun (i : Nat) => ((-7 : Int), (i : Int))) j) rfl (new_cells _ _ _) (unhide HLEN) ?_))
          intro v' w' hr hg hat
          have hG2 := (unhide hG).push hr (by simp) hg (by simpa using hat)
          rw [List.append_assoc, ← mkI_succ] at hG2
          have HG2 := hide hG2
          clear hr hg hat hG2
          go_wp2_with fail
          go_roundg (gk - 1)
          case measure => have := unhide hj; omega
          case rel => exact ⟨j + 1, v', by have := unhide hj; unfold Hid; omega, rfl, by go_num, HG2⟩
        · have hj6 : j = 64 := by have := unhide hj; omega
          subst hj6
          go_wp2_with fail
          go_ret
          exact ⟨_, rfl, unhide hG⟩
theorem Try.info43 : (Try.prog.info? 43).map (fun i => (i.zero, i.size, i.bytes)) = some (some (.agg #[.int .i64 0, .int .i64 0, .int .i64 0, .int .i64 0]), 4, 32) := by kernel_rfl
theorem appH {w : World} {ops : Array Oper} {rest : List Oper} {o : Oper} {a : Act} {Q : Exit → Act → World → Prop}
    (hg : o.guard = none) (s x : Operand) (hop : o.op = Op.call { callee := Callee.builtin Builtin.append, args := #[s, x], argTypes := #[32, 32] })
    (v : Value) (l : List (Hd)) (hs : a.eval s = v) (hr : Ro w 4 v l.length (flt enH l)) (ad : Addr) (c : Nat) (p : Hd) (hx : a.eval x = .slice (some ad) 1 c) (hc : ∀ j u, (enH p)[j]? = some u → w.cell? (ad.add j) = some u)
    (hN : l.length ≤ 4398046511103)
    (hK : ∀ v' w', Ro w' 4 v' (l.length + 1) (flt enH l ++ enH p) → w.grownBy w' v.ownBlock → (v'.ownBlock = v.ownBlock ∨ v'.ownBlock = some w.heap.size) → wpList Try.prog ops Q rest (a.put o.dst v') w') :
    wpList Try.prog ops Q (o :: rest) a w := by
  obtain ⟨i0, hi0, hz0, hz1, hz2⟩ := info_parts Try.info43
  exact wpList_app hg s x 32 hop 43 i0 _ 4 32 Try.underlying32 hi0 hz0 hz1 hz2 rfl (by decide) v l.length (flt enH l) hs hr ad 1 c (enH p) hx rfl hc (by simp [enH, Value.oneCell']) (by omega) (by unfold maxLen; omega) (by omega) hK
def mkH (n : Nat) : List (Hd) := (List.range n).map (fun (i : Nat) => (⟨-7, (i : Int), 0, 0⟩ : Hd))
theorem mkH_succ (n : Nat) : mkH (n + 1) = mkH n ++ [(fun (i : Nat) => (⟨-7, (i : Int), 0, 0⟩ : Hd)) n] := by simp [mkH, List.range_succ]
theorem mkH_length (n : Nat) : (mkH n).length = n := by simp [mkH]
theorem lmH_left (l : List (Hd)) (i : Nat) (p : Hd) (h : l[i]? = some p) : (l ++ mkH 64)[i]? = some p := by
  rw [List.getElem?_append_left (List.getElem?_eq_some_iff.1 h).1]; exact h
theorem lmH_right (l : List (Hd)) (i : Nat) (h1 : l.length ≤ i) (h2 : i < l.length + 64) : (l ++ mkH 64)[i]? = some ⟨-7, (i : Int) - (l.length : Int), 0, 0⟩ := by
  rw [List.getElem?_append_right h1]
  simp [mkH, List.getElem?_range (show i - l.length < 64 by omega)]
  omega
theorem lmH_length (l : List (Hd)) : (l ++ mkH 64).length = l.length + 64 := by rw [List.length_append, mkH_length]
set_option maxRecDepth 100000 in
set_option maxHeartbeats 1600000 in
theorem fullH_any {w : World} {lv : Value} {l : List (Hd)} (h : Rx w 4 lv l.length (flt enH l)) (hN : l.length ≤ 4398046510976) :
    Calls Try.prog 9 #[lv] w fun e w' => ∃ v', e = .returned v' ∧ Gx w 4 enH (l ++ mkH 64) v' w' := by
  have HC := hide (fun i p (hp : l[i]? = some p) => h.elem zH hp)
  obtain ⟨_, a, cap, rfl, hlc, hcm, _⟩ := h
  obtain ⟨L, hL⟩ : ∃ L, Hid (l.length = L) := ⟨_, rfl⟩
  rw [unhide hL] at hN hlc HC ⊢
  go_enter Try.func9, Try.ntmps9
  go_wp2_with fail
  go_loopg [3, 4] L (fun g t3 t4 wr => ∃ (i : Nat) (v : Value), Hid (i + g = L) ∧ t3 = v ∧ t4 = .int .i64 (i : Int) ∧ Hid (Gx w 4 enH (l.take i) v wr))
  case atStart => exact ⟨0, _, by unfold Hid; omega, rfl, rfl, ⟨by simpa [flt] using Ro.nil _ _, Below.refl _ _, by simp [Value.ownBlock]⟩⟩
  case round =>
    obtain ⟨i, v, hi, rfl, rfl, hG⟩ := hrel
    by_cases hlt : i < L
    · have hil : i < l.length := by rw [unhide hL]; exact hlt
      obtain ⟨p, hp⟩ : ∃ p, l[i]? = some p := ⟨_, List.getElem?_eq_getElem hil⟩
      obtain ⟨b, off, cap', e, _, _, hb, hcs⟩ := unhide HC i p hp
      cases e
      have hs := (unhide hG).2.1
      have k0 : wr.cell? ⟨b, off + i * 4, none⟩ = some (.int .i64 p.frm) := (hs.cell (p := ⟨b, off + i * 4, none⟩) hb).trans (hcs 0 _ rfl)
      have k1 : wr.cell? ⟨b, off + i * 4 + 1, none⟩ = some (.int .i64 p.to) := (hs.cell (p := ⟨b, off + i * 4 + 1, none⟩) hb).trans (hcs 1 _ rfl)
      have k2 : wr.cell? ⟨b, off + i * 4 + 2, none⟩ = some (.int .i64 p.target) := (hs.cell (p := ⟨b, off + i * 4 + 2, none⟩) hb).trans (hcs 2 _ rfl)
      have k3 : wr.cell? ⟨b, off + i * 4 + 3, none⟩ = some (.int .i64 p.height) := (hs.cell (p := ⟨b, off + i * 4 + 3, none⟩) hb).trans (hcs 3 _ rfl)
      have hbr := Nat.lt_of_lt_of_le hb hs.size
      have i0 : (0 : Int) ≤ (i : Int) := by omega
      have i1 : (i : Int) < (L : Int) := by omega
      have htl : (l.take i).length = i := by simp; omega
      have HRo := hide (unhide hG).1
      have HP := hide hp
      clear hs hcs hp
      go_wp2_with (first | (at_builtin; refine appH rfl _ _ rfl _ (l.take i) rfl ((unhide HRo).keep (fun g hg => Below.heap_alloc _ _ _ ((unhide HRo).lt g hg))) ⟨wr.heap.size, 0, none⟩ 1 p rfl (new_cells _ _ _) (by rw [htl]; omega) ?_))
      intro v' w' hr hg hat
      have hG2 := (unhide hG).push hr (by rw [htl]) hg (by simpa using hat)
      rw [← take_push (unhide HP)] at hG2
      have HG2 := hide hG2
      clear hr hg hat hG2
      go_wp2_with fail
      go_roundg (gk - 1)
      case measure => have := unhide hi; omega
      case rel => exact ⟨i + 1, v', by have := unhide hi; unfold Hid; omega, rfl, by go_num, HG2⟩
    · have hiL : i = L := by have := unhide hi; omega
      subst hiL
      have hG0 := unhide hG
      rw [List.take_of_length_le (by rw [unhide hL]; exact Nat.le_refl _)] at hG0
      have HG0 := hide (show Gx w 4 enH (l ++ mkH 0) _ wr by simpa [mkH] using hG0)
      clear hG hG0
      go_wp2_with fail
      go_loopg [3, 5] 64 (fun g t3 t5 wr => ∃ (j : Nat) (v : Value), Hid (j + g = 64) ∧ t3 = v ∧ t5 = .int .i64 (j : Int) ∧ Hid (Gx w 4 enH (l ++ mkH j) v wr))
      case atStart => exact ⟨0, _, by unfold Hid; omega, rfl, rfl, HG0⟩
      case round =>
        obtain ⟨j, v2, hj, rfl, rfl, hG⟩ := hrel
        by_cases hlt2 : j < 64
        · have HLEN : Hid ((l ++ mkH j).length ≤ 4398046511103) := by rw [List.length_append, mkH_length, unhide hL]; unfold Hid; omega
          have HRo := hide (unhide hG).1
          have d1 : (j : Int) < 64 := by omega
          go_wp2_with (first | (at_builtin; refine appH rfl _ _ rfl _ (l ++ mkH j) rfl ((unhide HRo).keep (fun g hg => Below.heap_alloc _ _ _ ((unhide HRo).lt g hg))) ⟨(World.heap _).size, 0, none⟩ 1 ((fun (i : Nat) => (⟨-7, (i : Int), 0, 0⟩ : Hd)) j) rfl (new_cells _ _ _) (unhide HLEN) ?_))
          intro v' w' hr hg hat
          have hG2 := (unhide hG).push hr (by simp) hg (by simpa using hat)
          rw [List.append_assoc, ← mkH_succ] at hG2
          have HG2 := hide hG2
          clear hr hg hat hG2
          go_wp2_with fail
          go_roundg (gk - 1)
          case measure => have := unhide hj; omega
          case rel => exact ⟨j + 1, v', by have := unhide hj; unfold Hid; omega, rfl, by go_num, HG2⟩
        · have hj6 : j = 64 := by have := unhide hj; omega
          subst hj6
          go_wp2_with fail
          go_ret
          exact ⟨_, rfl, unhide hG⟩
end Go.Proofs.Ytnefmfnchimppaa
