/-
  works; append of a row.
-/
import Derived.Test.YtonnkaphomonpaaEnc
namespace Go.Proofs.Ytonnkaphomonpaa
open Go.RowKit
set_option linter.unusedVariables false

def wl : List (Int × Int) := [(4, -1), (12, 0), (40, 300)]
theorem wl_enc : encE wl = 0 ∧ encB wl = [4, 1, 12, 40, 172, 2] := by decide +kernel
theorem wl_row (w : World) : Ro (w.alloc (.cells #[.int .i64 4, .int .i64 (-1), .int .i64 12, .int .i64 0, .int .i64 40, .int .i64 300] 24)) 2 (.slice (some ⟨w.heap.size, 0, none⟩) 3 3) wl.length (flat wl) :=
  Ro.of_own (World.ownsRow_lit (base := 0) (size := 2) w #[.int .i64 4, .int .i64 (-1), .int .i64 12, .int .i64 0, .int .i64 40, .int .i64 300] 3 (Nat.zero_le _) (by decide) rfl)

set_option maxRecDepth 100000 in
set_option maxHeartbeats 2000000 in
theorem works_any (w : World) : Calls Try.prog 8 #[] w fun e w' => e = .returned (.bool true) ∧ Below w.heap.size w w' := by
  have HE := hide (encode_any (RtV.of_ro (wl_row w)) (by decide) (by intro p hp; simp [wl] at hp; rcases hp with rfl | rfl | rfl <;> exact ⟨⟨by decide, by decide⟩, ⟨by decide, by decide⟩⟩))
  have HB := hide ((Below.refl _ w).alloc (Nat.le_refl _) (.cells #[.int .i64 4, .int .i64 (-1), .int .i64 12, .int .i64 0, .int .i64 40, .int .i64 300] 24))
  go_enter Try.func8, Try.ntmps8
  go_wp2_with fail
  refine (unhide HE).mono ?_
  rintro e w1 ⟨v1, rfl, ho, hb⟩
  rw [wl_enc.1]
  rw [wl_enc.2] at ho
  have hc := str_conv w1 v1 _ (Rd.of_own ho) (by intro b hb; simp at hb; omega)
  have B1 := hide (Bl.go (unhide HB) (by simp) hb)
  have hq : ((toStr [4, 1, 12, 40, 172, 2]).toList == [4, 1, 12, 40, 172, 2]) = true := by decide +kernel
  clear ho hb HE HB
  go_wp2_with fail
  go_ret
  exact ⟨rfl, unhide B1⟩

/-- append of nothing. -/
theorem run_app0 {P : Program} (t ty e : TypeId) (i : TypeInfo) (w : World) (ht : P.underlying t = some (.slice e)) (hi : P.info? e = some i) (v0 : Option Addr) (n cap : Nat) (hn : n ≤ cap) (hnil : v0 = none → cap = 0) (a : Option Addr) (c : Nat) :
    (Builtin.append_ #[t, t] ty #[.slice v0 n cap, .slice a 0 c]).run P w = .ok (.slice v0 n cap) w := by
  cases v0 with
  | none =>
    obtain rfl := hnil rfl
    obtain rfl : n = 0 := by omega
    cases a <;> simp [Builtin.append_, run_underlying ht, sizeOf, typeInfo, hi, Builtin.lenOf, Builtin.firstCells, loadCells, loadCellsFrom, Result.andThen]
  | some v0 => cases a <;> simp [Builtin.append_, run_underlying ht, sizeOf, typeInfo, hi, Builtin.lenOf, Builtin.firstCells, hn, storeCells, loadCells, loadCellsFrom, Result.andThen]
theorem grown_refl (w : World) (o : Option Nat) : w.grownBy w o := ⟨rfl, rfl, rfl, Nat.le_refl _, fun _ _ _ => rfl⟩
theorem wpList_app0 {P : Program} {w : World} {ops : Array Oper} {rest : List Oper} {o : Oper} {a : Act} {Q : Exit → Act → World → Prop}
    (hg : o.guard = none) (s x : Operand) (t : TypeId) (hop : o.op = Op.call { callee := Callee.builtin Builtin.append, args := #[s, x], argTypes := #[t, t] })
    (e : TypeId) (i : TypeInfo) (ht : P.underlying t = some (.slice e)) (hi : P.info? e = some i) (v0 : Option Addr) (n cap : Nat) (hn : n ≤ cap) (hnil : v0 = none → cap = 0) (hs : a.eval s = .slice v0 n cap) (ad : Option Addr) (c : Nat) (hx : a.eval x = .slice ad 0 c)
    (hK : wpList P ops Q rest (a.put o.dst (.slice v0 n cap)) w) : wpList P ops Q (o :: rest) a w := by
  refine wpList_plain hg fun K hK' => ?_
  have hrun := run_app0 (P := P) t o.type e i w ht hi v0 n cap hn hnil ad c
  unfold Oper.wp
  simp [execOp, hop, resolve, invoke, builtin, hs, hx, hrun, Result.andThen]
  exact hK' _ _ hK
theorem Ro.shape' {w : World} {sz : Nat} {v : Value} {n : Nat} {xs : List Value} (h : Ro w sz v n xs) : ∃ a cap, v = .slice a n cap ∧ n ≤ cap ∧ (a = none → cap = 0) := by
  rcases h.2 with ⟨e, h0⟩ | ⟨g, off, cap, cur, t, e, _, h1, h2, _⟩
  · exact ⟨none, 0, by rw [e, h0], by omega, fun _ => rfl⟩
  · exact ⟨_, cap, e, h1, fun q => by cases q⟩
/-- append of a list of instructions. -/
theorem wpList_appI {w : World} {ops : Array Oper} {rest : List Oper} {o : Oper} {a : Act} {Q : Exit → Act → World → Prop}
    (hg : o.guard = none) (s x : Operand) (hop : o.op = Op.call { callee := Callee.builtin Builtin.append, args := #[s, x], argTypes := #[25, 25] })
    (v : Value) (l : List (Int × Int)) (hs : a.eval s = v) (hr : Ro w 2 v l.length (flat l)) (u : Value) (m : List (Int × Int)) (hx : a.eval x = u) (hu : RtV w u m)
    (hN : l.length + m.length ≤ 8796093022207)
    (hK : ∀ v' w', Ro w' 2 v' (l ++ m).length (flat (l ++ m)) → w.grownBy w' v.ownBlock → (v'.ownBlock = v.ownBlock ∨ v'.ownBlock = some w.heap.size) → wpList Try.prog ops Q rest (a.put o.dst v') w') :
    wpList Try.prog ops Q (o :: rest) a w := by
  obtain ⟨i0, hi0, hz0, hz1, hz2⟩ := info_parts Try.info24
  obtain ⟨ua, uc, rfl, hu1, hu2, hu3⟩ := hu
  by_cases hm : m = []
  · subst hm
    obtain ⟨va, vc, rfl, q1, q2⟩ := hr.shape'
    refine wpList_app0 hg s x 25 hop 24 i0 Try.underlying25 hi0 va l.length vc q1 q2 hs ua uc hx ?_
    exact hK _ _ (by simpa using hr) (grown_refl _ _) (.inl rfl)
  · have hpos : 0 < m.length := List.length_pos_iff.2 hm
    obtain ⟨b, off, rfl, _⟩ := hu3 0 _ (List.getElem?_eq_getElem hpos)
    refine wpList_app hg s x 25 hop 24 i0 _ 2 16 Try.underlying25 hi0 hz0 hz1 hz2 rfl (by decide) v l.length (flat l) hs hr ⟨b, off, none⟩ m.length uc (flat m) hx (flat_length m) (fun j y hy => ?_) (fun y hy => ?_) hpos (by unfold maxLen; omega) (by omega) (fun v' w' r1 r2 r3 => hK v' w' ?_ r2 r3)
    · rw [Go.WideShapes.add_plain]
      have hj := (List.getElem?_eq_some_iff.1 hy).1
      rw [flat_length] at hj
      have hi : j / 2 < m.length := by omega
      obtain ⟨b', off', e, _, c0, c1⟩ := hu3 (j / 2) _ (List.getElem?_eq_getElem hi)
      cases e
      obtain ⟨f0, f1⟩ := flat_at m (j / 2) _ (List.getElem?_eq_getElem hi)
      rcases Nat.mod_two_eq_zero_or_one j with h | h
      · have e2 : j = j / 2 * 2 := by omega
        rw [← e2] at c0 f0
        rw [c0, ← f0, hy]
      · have e2 : j = j / 2 * 2 + 1 := by omega
        rw [Nat.add_assoc, ← e2] at c1
        rw [← e2] at f1
        rw [c1, ← f1, hy]
    · simp only [flat, List.mem_flatMap] at hy
      obtain ⟨p, _, hp⟩ := hy
      simp at hp
      rcases hp with rfl | rfl <;> rfl
    · rw [flat_append, List.length_append]
      exact r1
/-- append of bytes. -/
theorem wpList_appB {w : World} {ops : Array Oper} {rest : List Oper} {o : Oper} {a : Act} {Q : Exit → Act → World → Prop}
    (hg : o.guard = none) (s x : Operand) (hop : o.op = Op.call { callee := Callee.builtin Builtin.append, args := #[s, x], argTypes := #[32, 32] })
    (v : Value) (l : List Int) (hs : a.eval s = v) (hr : Ro w 1 v l.length (l.map By)) (u : Value) (m : List Int) (hx : a.eval x = u) (hu : Rd w u m)
    (hN : l.length + m.length ≤ 140737488355328)
    (hK : ∀ v' w', Ro w' 1 v' (l ++ m).length ((l ++ m).map By) → w.grownBy w' v.ownBlock → (v'.ownBlock = v.ownBlock ∨ v'.ownBlock = some w.heap.size) → wpList Try.prog ops Q rest (a.put o.dst v') w') :
    wpList Try.prog ops Q (o :: rest) a w := by
  obtain ⟨i0, hi0, hz0, hz1, hz2⟩ := info_parts Try.info5
  by_cases hm : m = []
  · subst hm
    obtain ⟨va, vc, rfl, q1, q2⟩ := hr.shape'
    obtain ⟨ua, uc, rfl⟩ := hu.shapeR
    refine wpList_app0 hg s x 32 hop 5 i0 Try.underlying32 hi0 va l.length vc q1 q2 hs ua uc hx ?_
    exact hK _ _ (by simpa using hr) (grown_refl _ _) (.inl rfl)
  · have hpos : 0 < m.length := List.length_pos_iff.2 hm
    obtain ⟨ua, uc, rfl⟩ := hu.shapeR
    obtain ⟨b, off, rfl, _⟩ := hu.at 0 hpos
    refine wpList_app hg s x 32 hop 5 i0 _ 1 1 Try.underlying32 hi0 hz0 hz1 hz2 rfl (by decide) v l.length (l.map By) hs hr ⟨b, off, none⟩ m.length uc (m.map By) hx (by simp) (fun j y hy => ?_) (fun y hy => ?_) hpos (by unfold maxLen; omega) (by omega) (fun v' w' r1 r2 r3 => hK v' w' ?_ r2 r3)
    · rw [Go.WideShapes.add_plain]
      have hj := (List.getElem?_eq_some_iff.1 hy).1
      rw [List.length_map] at hj
      obtain ⟨b', off', e, _, c0⟩ := hu.at j hj
      cases e
      rw [c0, ← hy, List.getElem?_map, List.getElem?_eq_getElem hj, List.getD_eq_getElem?_getD, List.getElem?_eq_getElem hj]
      rfl
    · obtain ⟨z, _, rfl⟩ := List.mem_map.1 hy
      rfl
    · rw [List.map_append, List.length_append]
      exact r1
end Go.Proofs.Ytonnkaphomonpaa
