/-
  LentValues, KeptValues.
-/
import Derived.Test.YtkpngfahnpidkaaFIn
namespace Go.Proofs.Ytkpngfahnpidkaa
open Go.RowKit
set_option linter.unusedVariables false

theorem wpList_appW {w : World} {ops : Array Oper} {rest : List Oper} {o : Oper} {a : Act} {Q : Exit → Act → World → Prop}
    (hg : o.guard = none) (s x : Operand) (hop : o.op = Op.call { callee := Callee.builtin Builtin.append, args := #[s, x], argTypes := #[36, 36] })
    (v : Value) (l : List (Int × Int)) (hs : a.eval s = v) (hr : Ro w 2 v l.length (flat l)) (ad : Addr) (c : Nat) (k n : Int) (hx : a.eval x = .slice (some ad) 1 c) (hc : ∀ j u, [Value.int .i64 k, .int .i64 n][j]? = some u → w.cell? (ad.add j) = some u)
    (hN : l.length ≤ 8796093022207)
    (hK : ∀ v' w', Ro w' 2 v' (l ++ [(k, n)]).length (flat (l ++ [(k, n)])) → w.grownBy w' v.ownBlock → (v'.ownBlock = v.ownBlock ∨ v'.ownBlock = some w.heap.size) → wpList Try.prog ops Q rest (a.put o.dst v') w') :
    wpList Try.prog ops Q (o :: rest) a w := by
  obtain ⟨i0, hi0, hz0, hz1, hz2⟩ := info_parts Try.info33
  refine wpList_app hg s x 36 hop 33 i0 _ 2 16 Try.underlying36 hi0 hz0 hz1 hz2 rfl (by decide) v l.length (flat l) hs hr ad 1 c [.int .i64 k, .int .i64 n] hx rfl hc (by simp [Value.oneCell']) (by omega) (by unfold maxLen; omega) (by omega) (fun v' w' r1 r2 r3 => hK v' w' ?_ r2 r3)
  rw [flat_append, List.length_append]
  exact r1
theorem RtV.below {w w' : World} {v : Value} {l : List (Int × Int)} (h : RtV w v l) (f : Below w.heap.size w w') : RtV w' v l := by
  obtain ⟨a, cap, e, h1, h2, h3⟩ := h
  refine ⟨a, cap, e, h1, h2, fun i p hp => ?_⟩
  obtain ⟨b, off, e2, hb, c0, c1⟩ := h3 i p hp
  exact ⟨b, off, e2, Nat.lt_of_lt_of_le hb f.size, (f.cell (p := ⟨b, off + i * 2, none⟩) hb).trans c0, (f.cell (p := ⟨b, off + i * 2 + 1, none⟩) hb).trans c1⟩
/-- A row of one's own that grows. -/
def Gw (w : World) (Q : List (Int × Int)) (v : Value) (wr : World) : Prop := Ro wr 2 v Q.length (flat Q) ∧ Below w.heap.size w wr ∧ ∀ k, v.ownBlock = some k → w.heap.size ≤ k
theorem Gw.push {w wr w' : World} {Q : List (Int × Int)} {v v' : Value} {p : Int × Int} {X : Obj} (h : Gw w Q v wr) (hr : Ro w' 2 v' (Q ++ [p]).length (flat (Q ++ [p]))) (hg : (wr.alloc X).grownBy w' v.ownBlock) (hat : v'.ownBlock = v.ownBlock ∨ v'.ownBlock = some (wr.alloc X).heap.size) : Gw w (Q ++ [p]) v' w' := by
  obtain ⟨h1, h2, h3⟩ := h
  have hs := h2.size
  have f : Fr (fun k => v.ownBlock = some k) wr w' := ((Fr.refl _ wr).alloc X).grown hg (fun k e => .inr e)
  refine ⟨hr, h2.trans (f.below hs (fun k hk e => by have := h3 k e; omega)), fun k hk => ?_⟩
  rcases hat with q | q
  · exact h3 k (q ▸ hk)
  · rw [q] at hk; cases hk; simp; omega
def marks (n : Nat) : List (Int × Int) := (List.range n).map (fun (i : Nat) => ((-9 : Int), (i : Int)))
theorem marks_succ (n : Nat) : marks (n + 1) = marks n ++ [(-9, (n : Int))] := by simp [marks, List.range_succ]
theorem marks_length (n : Nat) : (marks n).length = n := by simp [marks]
theorem take_push (l : List (Int × Int)) (i : Nat) (p : Int × Int) (h : l[i]? = some p) : l.take (i + 1) = l.take i ++ [p] := by
  rw [List.take_add_one, h]; rfl
set_option maxRecDepth 100000 in
set_option maxHeartbeats 1600000 in
theorem lent_any {w : World} {lv : Value} {l : List (Int × Int)} (h : RtV w lv l) (hN : l.length ≤ 8796093021952) :
    Calls Try.prog 40 #[lv] w fun e w' => ∃ v', e = .returned v' ∧ Gw w (l ++ marks 64) v' w' := by
  obtain ⟨a, cap, rfl, hlc, hcm, hcell⟩ := h
  have HC := hide hcell
  obtain ⟨L, hL⟩ : ∃ L, Hid (l.length = L) := ⟨_, rfl⟩
  rw [unhide hL] at hN hlc ⊢
  clear hcell
  go_enter Try.func40, Try.ntmps40
  go_wp2_with fail
  go_loopg [3, 4] L (fun g t3 t4 wr => ∃ (i : Nat) (v : Value), Hid (i + g = L) ∧ t3 = v ∧ t4 = .int .i64 (i : Int) ∧ Hid (Gw w (l.take i) v wr))
  case atStart => exact ⟨0, _, by unfold Hid; omega, rfl, rfl, ⟨by simpa [flat] using Ro.nil _ _, Below.refl _ _, by simp [Value.ownBlock]⟩⟩
  case round =>
    obtain ⟨i, v, hi, rfl, rfl, hG⟩ := hrel
    by_cases hlt : i < L
    · have hil : i < l.length := by rw [unhide hL]; exact hlt
      obtain ⟨p, hp⟩ : ∃ p, l[i]? = some p := ⟨_, List.getElem?_eq_getElem hil⟩
      obtain ⟨b, off, rfl, hb, c0, c1⟩ := unhide HC i p hp
      have hs := (unhide hG).2.1
      have k0 := (hs.cell (p := ⟨b, off + i * 2, none⟩) hb).trans c0
      have k1 := (hs.cell (p := ⟨b, off + i * 2 + 1, none⟩) hb).trans c1
      have hbr := Nat.lt_of_lt_of_le hb hs.size
      have i0 : (0 : Int) ≤ (i : Int) := by omega
      have i1 : (i : Int) < (L : Int) := by omega
      have htl : (l.take i).length = i := by simp; omega
      have HRo := hide (unhide hG).1
      have HP := hide hp
      clear hs c0 c1 hp
      go_wp2_with (first | (at_builtin; refine wpList_appW rfl _ _ rfl _ (l.take i) rfl ((unhide HRo).keep (fun g hg => Below.heap_alloc _ _ _ ((unhide HRo).lt g hg))) ⟨wr.heap.size, 0, none⟩ 1 p.1 p.2 rfl (two_new' _ _ _ _) (by rw [htl]; omega) ?_))
      intro v' w' hr hg hat
      have hG2 := (unhide hG).push (p := (p.1, p.2)) (by rw [List.length_append, htl]; exact hr) hg (by simpa using hat)
      rw [← take_push l i _ (unhide HP)] at hG2
      have HG2 := hide hG2
      clear hr hg hat hG2
      go_wp2_with fail
      go_roundg (gk - 1)
      case measure => have := unhide hi; omega
      case rel => exact ⟨i + 1, v', by have := unhide hi; unfold Hid; omega, rfl, by go_num, HG2⟩
    · have hiL : i = L := by have := unhide hi; omega
      subst hiL
      have hG0 := unhide hG
      rw [List.take_of_length_le (by rw [unhide hL]; exact Nat.le_refl _)] at hG0
      have HG0 := hide (show Gw w (l ++ marks 0) _ wr by simpa [marks] using hG0)
      clear hG hG0
      go_wp2_with fail
      go_loopg [3, 5] 64 (fun g t3 t5 wr => ∃ (j : Nat) (v : Value), Hid (j + g = 64) ∧ t3 = v ∧ t5 = .int .i64 (j : Int) ∧ Hid (Gw w (l ++ marks j) v wr))
      case atStart => exact ⟨0, _, by unfold Hid; omega, rfl, rfl, HG0⟩
      case round =>
        obtain ⟨j, v2, hj, rfl, rfl, hG⟩ := hrel
        by_cases hlt2 : j < 64
        · have hlen : (l ++ marks j).length ≤ 8796093022207 := by rw [List.length_append, marks_length, unhide hL]; omega
          have HRo := hide (unhide hG).1
          have d1 : (j : Int) < 64 := by omega
          have HLEN := hide hlen
          clear hlen
          go_wp2_with (first | (at_builtin; refine wpList_appW rfl _ _ rfl _ (l ++ marks j) rfl ((unhide HRo).keep (fun g hg => Below.heap_alloc _ _ _ ((unhide HRo).lt g hg))) ⟨wr.heap.size, 0, none⟩ 1 (-9) (j : Int) rfl (two_new' _ _ _ _) (unhide HLEN) ?_))
          intro v' w' hr hg hat
          have hG2 := (unhide hG).push (p := (-9, (j : Int))) (by simpa using hr) hg (by simpa using hat)
          rw [List.append_assoc, ← marks_succ] at hG2
          have HG2 := hide hG2
          clear hr hg hat hG2
          go_wp2_with fail
          go_roundg (gk - 1)
          case measure => have := unhide hj; omega
          case rel => exact ⟨j + 1, v', by have := unhide hj; unfold Hid; omega, rfl, by go_num, HG2⟩
        · have hj6 : j = 64 := by have := unhide hj; omega
          subst hj6
          go_wp2_with fail
          go_ret
          exact ⟨_, rfl, unhide hG⟩
theorem Ro.pair {w : World} {v : Value} {Q : List (Int × Int)} (h : Ro w 2 v Q.length (flat Q)) {i : Nat} {p : Int × Int} (hp : Q[i]? = some p) :
    ∃ g off cap, v = .slice (some ⟨g, off, none⟩) Q.length cap ∧ Q.length ≤ cap ∧ cap ≤ maxLen ∧ g < w.heap.size ∧ w.cell? ⟨g, off + i * 2, none⟩ = some (.int .i64 p.1) ∧ w.cell? ⟨g, off + i * 2 + 1, none⟩ = some (.int .i64 p.2) := by
  have hi := (List.getElem?_eq_some_iff.1 hp).1
  obtain ⟨g, off, cap, e, h1, h2, h3, h4⟩ := h.full (by omega)
  obtain ⟨f0, f1⟩ := flat_at Q i p hp
  refine ⟨g, off, cap, e, h1, h2, h3, ?_, ?_⟩
  · rw [h4 (i * 2) (by omega)]; exact f0
  · rw [Nat.add_assoc, h4 (i * 2 + 1) (by omega)]; exact f1
theorem lm_left (l : List (Int × Int)) (i : Nat) (p : Int × Int) (h : l[i]? = some p) : (l ++ marks 64)[i]? = some p := by
  rw [List.getElem?_append_left (List.getElem?_eq_some_iff.1 h).1]; exact h
theorem lm_right (l : List (Int × Int)) (i : Nat) (h1 : l.length ≤ i) (h2 : i < l.length + 64) : (l ++ marks 64)[i]? = some (-9, (i : Int) - (l.length : Int)) := by
  rw [List.getElem?_append_right h1]
  simp [marks, List.getElem?_range (show i - l.length < 64 by omega)]
  omega
theorem lm_length (l : List (Int × Int)) : (l ++ marks 64).length = l.length + 64 := by rw [List.length_append, marks_length]
set_option maxRecDepth 100000 in
set_option maxHeartbeats 3200000 in
theorem kept_any {w : World} {lv v : Value} {l : List (Int × Int)} (hv : Ro w 2 v (l ++ marks 64).length (flat (l ++ marks 64))) (h : RtV w lv l) (hN : l.length ≤ 8796093021952) :
    Calls Try.prog 45 #[v, lv] w fun e w' => e = .returned (.bool true) ∧ Below w.heap.size w w' := by
  obtain ⟨a, cap, rfl, hlc, hcm, hcell⟩ := h
  have HC := hide hcell
  have HV := hide (fun i p (hp : (l ++ marks 64)[i]? = some p) => hv.pair hp)
  obtain ⟨g, off, vcap, rfl, _, _, _⟩ := hv.full (by rw [lm_length]; omega)
  rw [lm_length]
  rw [lm_length] at HV
  obtain ⟨L, hL⟩ : ∃ L, Hid (l.length = L) := ⟨_, rfl⟩
  rw [unhide hL] at hN hlc HV ⊢
  clear hcell hv
  have d0 : (((L : Nat) : Int) + 64 != (L : Int) + 64) = false := by simp
  go_enter Try.func45, Try.ntmps45
  go_wp2_with fail
  go_loopg [5] (L + 64) (fun gg t5 wr => ∃ (i : Nat), Hid (i + gg = L + 64) ∧ t5 = .int .i64 (i : Int) ∧ Hid (Below w.heap.size w wr))
  case atStart => exact ⟨0, by unfold Hid; omega, rfl, Below.refl _ _⟩
  case round =>
    obtain ⟨i, hi, rfl, hB⟩ := hrel
    by_cases hlt : i < L + 64
    · by_cases hl2 : i < L
      · have hil : i < l.length := by rw [unhide hL]; exact hl2
        obtain ⟨p, hp⟩ : ∃ p, l[i]? = some p := ⟨_, List.getElem?_eq_getElem hil⟩
        obtain ⟨b, so, rfl, hb, c0, c1⟩ := unhide HC i p hp
        obtain ⟨g', off', cap', e, _, _, hg, q0, q1⟩ := unhide HV i p (lm_left l i p hp)
        cases e
        have k0 := ((unhide hB).cell (p := ⟨b, so + i * 2, none⟩) hb).trans c0
        have k1 := ((unhide hB).cell (p := ⟨b, so + i * 2 + 1, none⟩) hb).trans c1
        have r0 := ((unhide hB).cell (p := ⟨g, off + i * 2, none⟩) hg).trans q0
        have r1 := ((unhide hB).cell (p := ⟨g, off + i * 2 + 1, none⟩) hg).trans q1
        have hbr := Nat.lt_of_lt_of_le hb (unhide hB).size
        have hgr := Nat.lt_of_lt_of_le hg (unhide hB).size
        have i0 : (0 : Int) ≤ (i : Int) := by omega
        have i1 : (i : Int) < (L : Int) := by omega
        have i2 : (i : Int) < (L : Int) + 64 := by omega
        have hB2 := hide ((unhide hB).trans (((Below.refl _ wr).alloc (Nat.le_refl _) (.cells #[.int .i64 p.1, .int .i64 p.2] 33)).mono (unhide hB).size))
        have e0 : (wr.alloc (.cells #[.int .i64 p.1, .int .i64 p.2] 33)).cell? ⟨g, off + i * 2, none⟩ = some (.int .i64 p.1) := (World.cell?_of_block (Below.heap_alloc _ _ _ hgr)).trans r0
        have e1 : (wr.alloc (.cells #[.int .i64 p.1, .int .i64 p.2] 33)).cell? ⟨g, off + i * 2 + 1, none⟩ = some (.int .i64 p.2) := (World.cell?_of_block (Below.heap_alloc _ _ _ hgr)).trans r1
        obtain ⟨b0, b1⟩ := two_new wr (.int .i64 p.1) (.int .i64 p.2) 33
        clear c0 c1 q0 q1 hp
        go_wp2_with fail
        go_quiet (fail)
        have hB3 := hide ((unhide hB2).trans ((Fr.drewN (S := fun _ => False) nq).below (unhide hB2).size (fun _ _ e => e)))
        go_wp2_with fail
        go_roundg (gk - 1)
        case measure => have := unhide hi; omega
        case rel => exact ⟨i + 1, by have := unhide hi; unfold Hid; omega, by go_num, hB3⟩
      · obtain ⟨g', off', cap', e, _, _, hg, q0, q1⟩ := unhide HV i _ (lm_right l i (by rw [unhide hL]; omega) (by rw [unhide hL]; omega))
        cases e
        rw [unhide hL] at q1
        have r0 := ((unhide hB).cell (p := ⟨g, off + i * 2, none⟩) hg).trans q0
        have r1 := ((unhide hB).cell (p := ⟨g, off + i * 2 + 1, none⟩) hg).trans q1
        have hgr := Nat.lt_of_lt_of_le hg (unhide hB).size
        have i0 : (0 : Int) ≤ (i : Int) := by omega
        have i1 : decide ((i : Int) < (L : Int)) = false := decide_eq_false (by omega)
        have i2 : (i : Int) < (L : Int) + 64 := by omega
        have hB2 := hide ((unhide hB).trans (((Below.refl _ wr).alloc (Nat.le_refl _) (.cells #[.int .i64 (-9), .int .i64 ((i : Int) - (L : Int))] 33)).mono (unhide hB).size))
        have e0 : (wr.alloc (.cells #[.int .i64 (-9), .int .i64 ((i : Int) - (L : Int))] 33)).cell? ⟨g, off + i * 2, none⟩ = some (.int .i64 (-9)) := (World.cell?_of_block (Below.heap_alloc _ _ _ hgr)).trans r0
        have e1 : (wr.alloc (.cells #[.int .i64 (-9), .int .i64 ((i : Int) - (L : Int))] 33)).cell? ⟨g, off + i * 2 + 1, none⟩ = some (.int .i64 ((i : Int) - (L : Int))) := (World.cell?_of_block (Below.heap_alloc _ _ _ hgr)).trans r1
        obtain ⟨b0, b1⟩ := two_new wr (.int .i64 (-9)) (.int .i64 ((i : Int) - (L : Int))) 33
        clear q0 q1
        go_wp2_with fail
        go_quiet (fail)
        have hB3 := hide ((unhide hB2).trans ((Fr.drewN (S := fun _ => False) nq).below (unhide hB2).size (fun _ _ e => e)))
        go_wp2_with fail
        go_roundg (gk - 1)
        case measure => have := unhide hi; omega
        case rel => exact ⟨i + 1, by have := unhide hi; unfold Hid; omega, by go_num, hB3⟩
    · have hiL : i = L + 64 := by have := unhide hi; omega
      subst hiL
      go_wp2_with fail
      go_ret
      exact ⟨rfl, unhide hB⟩
end Go.Proofs.Ytkpngfahnpidkaa
