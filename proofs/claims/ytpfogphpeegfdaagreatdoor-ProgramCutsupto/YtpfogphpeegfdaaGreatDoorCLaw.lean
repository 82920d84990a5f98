/-
  ProgramCuts.
-/
import Derived.Test.YtpfogphpeegfdaaGreatDoorEnc
import Derived.Test.YtpfogphpeegfdaaGreatDoorCopy
import Derived.Test.YtpfogphpeegfdaaGreatDoorSh1
import Derived.Test.YtpfogphpeegfdaaGreatDoorDEx
namespace Go.Proofs.YtpfogphpeegfdaaGreatDoor
open Go.RowKit
set_option linter.unusedVariables false

def wl : List (Int × Int) := [(4, -1), (12, 0), (40, 300)]
theorem wl_enc : encE wl = 0 ∧ encB wl = [4, 1, 12, 40, 172, 2] := by decide +kernel
theorem wl_row (w : World) : Ro (w.alloc (.cells #[.int .i64 4, .int .i64 (-1), .int .i64 12, .int .i64 0, .int .i64 40, .int .i64 300] 63)) 2 (.slice (some ⟨w.heap.size, 0, none⟩) 3 3) wl.length (flat wl) :=
  Ro.of_own (World.ownsRow_lit (base := 0) (size := 2) w #[.int .i64 4, .int .i64 (-1), .int .i64 12, .int .i64 0, .int .i64 40, .int .i64 300] 3 (Nat.zero_le _) (by decide) rfl)

/-- append of nothing. -/
theorem run_app0 {P : Program} (t ty e : TypeId) (i : TypeInfo) (w : World) (ht : P.underlying t = some (.slice e)) (hi : P.info? e = some i) (v0 : Option Addr) (n cap : Nat) (hn : n ≤ cap) (hnil : v0 = none → cap = 0) (a : Option Addr) (c : Nat) :
    (Builtin.append_ #[t, t] ty #[.slice v0 n cap, .slice a 0 c]).run P w = .ok (.slice v0 n cap) w := by
  cases v0 with
  | none =>
    obtain rfl := hnil rfl
    obtain rfl : n = 0 := by omega
    cases a <;> simp [Builtin.append_, run_underlying ht, sizeOf, typeInfo, hi, Builtin.lenOf, Builtin.firstCells, loadCells, loadCellsFrom, Result.andThen]
  | some v0 => cases a <;> simp [Builtin.append_, run_underlying ht, sizeOf, typeInfo, hi, Builtin.lenOf, Builtin.firstCells, hn, storeCells, loadCells, loadCellsFrom, Result.andThen]
theorem grown_refl (w : World) (o : Option Nat) : w.grownBy w o := ⟨rfl, rfl, rfl, Nat.le_refl _, fun _ _ _ => rfl⟩
theorem wpList_app0 {P : Program} {w : World} {ops : Array Oper} {rest : List Oper} {o : Oper} {a : Act} {Q : Exit → Act → World → Prop}
    (hg : o.guard = none) (s x : Operand) (t : TypeId) (hop : o.op = Op.call { callee := Callee.builtin Builtin.append, args := #[s, x], argTypes := #[t, t] })
    (e : TypeId) (i : TypeInfo) (ht : P.underlying t = some (.slice e)) (hi : P.info? e = some i) (v0 : Option Addr) (n cap : Nat) (hn : n ≤ cap) (hnil : v0 = none → cap = 0) (hs : a.eval s = .slice v0 n cap) (ad : Option Addr) (c : Nat) (hx : a.eval x = .slice ad 0 c)
    (hK : wpList P ops Q rest (a.put o.dst (.slice v0 n cap)) w) : wpList P ops Q (o :: rest) a w := by
  refine wpList_plain hg fun K hK' => ?_
  have hrun := run_app0 (P := P) t o.type e i w ht hi v0 n cap hn hnil ad c
  unfold Oper.wp
  simp [execOp, hop, resolve, invoke, builtin, hs, hx, hrun, Result.andThen]
  exact hK' _ _ hK
theorem Ro.shape' {w : World} {sz : Nat} {v : Value} {n : Nat} {xs : List Value} (h : Ro w sz v n xs) : ∃ a cap, v = .slice a n cap ∧ n ≤ cap ∧ (a = none → cap = 0) := by
  rcases h.2 with ⟨e, h0⟩ | ⟨g, off, cap, cur, t, e, _, h1, h2, _⟩
  · exact ⟨none, 0, by rw [e, h0], by omega, fun _ => rfl⟩
  · exact ⟨_, cap, e, h1, fun q => by cases q⟩
/-- append of a list of instructions. -/
theorem wpList_appI {w : World} {ops : Array Oper} {rest : List Oper} {o : Oper} {a : Act} {Q : Exit → Act → World → Prop}
    (hg : o.guard = none) (s x : Operand) (hop : o.op = Op.call { callee := Callee.builtin Builtin.append, args := #[s, x], argTypes := #[51, 51] })
    (v : Value) (l : List (Int × Int)) (hs : a.eval s = v) (hr : Ro w 2 v l.length (flat l)) (u : Value) (m : List (Int × Int)) (hx : a.eval x = u) (hu : RtV w u m)
    (hN : l.length + m.length ≤ 8796093022207)
    (hK : ∀ v' w', Ro w' 2 v' (l ++ m).length (flat (l ++ m)) → w.grownBy w' v.ownBlock → (v'.ownBlock = v.ownBlock ∨ v'.ownBlock = some w.heap.size) → wpList Tryz.prog ops Q rest (a.put o.dst v') w') :
    wpList Tryz.prog ops Q (o :: rest) a w := by
  obtain ⟨i0, hi0, hz0, hz1, hz2⟩ := info_parts Tryz.info63
  obtain ⟨ua, uc, rfl, hu1, hu2, hu3⟩ := hu
  by_cases hm : m = []
  · subst hm
    obtain ⟨va, vc, rfl, q1, q2⟩ := hr.shape'
    refine wpList_app0 hg s x 51 hop 63 i0 Tryz.underlying51 hi0 va l.length vc q1 q2 hs ua uc hx ?_
    exact hK _ _ (by simpa using hr) (grown_refl _ _) (.inl rfl)
  · have hpos : 0 < m.length := List.length_pos_iff.2 hm
    obtain ⟨b, off, rfl, _⟩ := hu3 0 _ (List.getElem?_eq_getElem hpos)
    refine wpList_app hg s x 51 hop 63 i0 _ 2 16 Tryz.underlying51 hi0 hz0 hz1 hz2 rfl (by decide) v l.length (flat l) hs hr ⟨b, off, none⟩ m.length uc (flat m) hx (flat_length m) (fun j y hy => ?_) (fun y hy => ?_) hpos (by unfold maxLen; omega) (by omega) (fun v' w' r1 r2 r3 => hK v' w' ?_ r2 r3)
    · rw [Go.WideShapes.add_plain]
      have hj := (List.getElem?_eq_some_iff.1 hy).1
      rw [flat_length] at hj
      have hi : j / 2 < m.length := by omega
      obtain ⟨b', off', e, _, c0, c1⟩ := hu3 (j / 2) _ (List.getElem?_eq_getElem hi)
      cases e
      obtain ⟨f0, f1⟩ := flat_at m (j / 2) _ (List.getElem?_eq_getElem hi)
      rcases Nat.mod_two_eq_zero_or_one j with h | h
      · have e2 : j = j / 2 * 2 := by omega
        rw [← e2] at c0 f0
        rw [c0, ← f0, hy]
      · have e2 : j = j / 2 * 2 + 1 := by omega
        rw [Nat.add_assoc, ← e2] at c1
        rw [← e2] at f1
        rw [c1, ← f1, hy]
    · simp only [flat, List.mem_flatMap] at hy
      obtain ⟨p, _, hp⟩ := hy
      simp at hp
      rcases hp with rfl | rfl <;> rfl
    · rw [flat_append, List.length_append]
      exact r1
/-- append of bytes. -/
theorem wpList_appB {w : World} {ops : Array Oper} {rest : List Oper} {o : Oper} {a : Act} {Q : Exit → Act → World → Prop}
    (hg : o.guard = none) (s x : Operand) (hop : o.op = Op.call { callee := Callee.builtin Builtin.append, args := #[s, x], argTypes := #[22, 22] })
    (v : Value) (l : List Int) (hs : a.eval s = v) (hr : Ro w 1 v l.length (l.map By)) (u : Value) (m : List Int) (hx : a.eval x = u) (hu : Rd w u m)
    (hN : l.length + m.length ≤ 140737488355328)
    (hK : ∀ v' w', Ro w' 1 v' (l ++ m).length ((l ++ m).map By) → w.grownBy w' v.ownBlock → (v'.ownBlock = v.ownBlock ∨ v'.ownBlock = some w.heap.size) → wpList Tryz.prog ops Q rest (a.put o.dst v') w') :
    wpList Tryz.prog ops Q (o :: rest) a w := by
  obtain ⟨i0, hi0, hz0, hz1, hz2⟩ := info_parts Tryz.info5
  by_cases hm : m = []
  · subst hm
    obtain ⟨va, vc, rfl, q1, q2⟩ := hr.shape'
    obtain ⟨ua, uc, rfl⟩ := hu.shapeR
    refine wpList_app0 hg s x 22 hop 5 i0 Tryz.underlying22 hi0 va l.length vc q1 q2 hs ua uc hx ?_
    exact hK _ _ (by simpa using hr) (grown_refl _ _) (.inl rfl)
  · have hpos : 0 < m.length := List.length_pos_iff.2 hm
    obtain ⟨ua, uc, rfl⟩ := hu.shapeR
    obtain ⟨b, off, rfl, _⟩ := hu.at 0 hpos
    refine wpList_app hg s x 22 hop 5 i0 _ 1 1 Tryz.underlying22 hi0 hz0 hz1 hz2 rfl (by decide) v l.length (l.map By) hs hr ⟨b, off, none⟩ m.length uc (m.map By) hx (by simp) (fun j y hy => ?_) (fun y hy => ?_) hpos (by unfold maxLen; omega) (by omega) (fun v' w' r1 r2 r3 => hK v' w' ?_ r2 r3)
    · rw [Go.WideShapes.add_plain]
      have hj := (List.getElem?_eq_some_iff.1 hy).1
      rw [List.length_map] at hj
      obtain ⟨b', off', e, _, c0⟩ := hu.at j hj
      cases e
      rw [c0, ← hy, List.getElem?_map, List.getElem?_eq_getElem hj, List.getD_eq_getElem?_getD, List.getElem?_eq_getElem hj]
      rfl
    · obtain ⟨z, _, rfl⟩ := List.mem_map.1 hy
      rfl
    · rw [List.map_append, List.length_append]
      exact r1

set_option linter.unusedVariables false
set_option linter.unusedSimpArgs false
set_option maxRecDepth 100000
theorem BOk.takeB {B : List Int} (h : BOk B) (n : Nat) : BOk (B.take n) := fun b hb => h b (List.mem_of_mem_take hb)
theorem BOk.app {B D : List Int} (h : BOk B) (k : BOk D) : BOk (B ++ D) := fun b hb => by
  rcases List.mem_append.1 hb with q | q
  · exact h b q
  · exact k b q
set_option maxHeartbeats 6400000 in
theorem cutsLaw {w : World} {v u : Value} {z : Int} {B D : List Int} (hl : Laid w) (hR : Rd w v B) (hD : Rd w u D) (oB : BOk B) (oD : BOk D) (hN : B.length + D.length ≤ 140737488355328) :
    Calls Tryz.prog 3 #[v, .int .i64 z, u] w fun e w' => e = .returned (.bool true) ∧ Below w.heap.size w w' := by
  have gl : 0 < w.heap.size := World.block_lt_of_cell? _ _ hl
  have HL := hide hl
  have HG := hide gl
  have OB := hide oB
  have OD := hide oD
  obtain ⟨va, vc, rfl⟩ := hR.shapeR
  obtain ⟨ua, uc, rfl⟩ := hD.shapeR
  obtain ⟨N, hNN⟩ : ∃ N, Hid (B.length = N) := ⟨_, rfl⟩
  obtain ⟨M, hMM⟩ : ∃ M, Hid (D.length = M) := ⟨_, rfl⟩
  have R0 := hide hR
  have D0 := hide hD
  rw [unhide hNN] at R0 ⊢
  rw [unhide hMM] at D0 ⊢
  have nB : B.length ≤ 140737488355328 := by omega
  have NB := hide nB
  have NS := hide hN
  rw [unhide hNN, unhide hMM] at hN
  clear hl gl oB oD hR hD nB
  go_enter Tryz.func3, Tryz.ntmps3
  go_wp2_with fail
  refine (shown_any (unhide HL)).mono ?_
  rintro e W1 ⟨rfl, hb1⟩
  have F1 : Hid (Below w.heap.size w W1) := hb1
  have R1 : Hid (Rd W1 (.slice va N vc) B) := (unhide R0).bl hb1
  have D1 : Hid (Rd W1 (.slice ua M uc) D) := (unhide D0).bl hb1
  clear hb1 R0 D0
  go_wp2_with fail
  refine (copyBytes_any _ B W1 (unhide R1) (unhide NB)).mono ?_
  rintro e W2 ⟨v2, rfl, ho2, hb2⟩
  have N2 : Hid (Rd W2 v2 B) := Rd.of_ro (Ro.of_own ho2)
  have F2 : Hid (Below w.heap.size w W2) := (unhide F1).trans (hb2.mono (unhide F1).size)
  have R2 : Hid (Rd W2 (.slice va N vc) B) := (unhide R1).bl hb2
  have D2 : Hid (Rd W2 (.slice ua M uc) D) := (unhide D1).bl hb2
  clear F1 R1 D1
  clear hb2 ho2
  go_wp2_with fail
  refine (decP_any (unhide N2) (unhide OB) (unhide NB) ((unhide HL).blw (unhide F2) (unhide HG))).mono ?_
  rintro e W3 ⟨ca3, cn3, cc3, fa3, fn3, fc3, rfl, hb3, -, -⟩
  have F3 : Hid (Below w.heap.size w W3) := (unhide F2).trans (hb3.mono (unhide F2).size)
  have R3 : Hid (Rd W3 (.slice va N vc) B) := (unhide R2).bl hb3
  have D3 : Hid (Rd W3 (.slice ua M uc) D) := (unhide D2).bl hb3
  clear F2 R2 D2
  clear hb3 N2
  obtain ⟨W4, eW4⟩ : ∃ W4, Hid (W4 = W3.alloc (.cells #[.slice ca3 cn3 cc3, .slice fa3 fn3 fc3] 27)) := ⟨_, rfl⟩
  have hb4 : Below W3.heap.size W3 W4 := by rw [unhide eW4]; exact (Below.refl _ _).alloc (Nat.le_refl _) _
  have F4 : Hid (Below w.heap.size w W4) := (unhide F3).trans (hb4.mono (unhide F3).size)
  have R4 : Hid (Rd W4 (.slice va N vc) B) := (unhide R3).bl hb4
  have D4 : Hid (Rd W4 (.slice ua M uc) D) := (unhide D3).bl hb4
  clear F3 R3 D3
  clear hb4
  obtain ⟨d1, hd1⟩ : ∃ d1, Hid ((decP B).2 = d1) := ⟨_, rfl⟩
  rw [unhide hd1]
  by_cases q1 : d1 = 0
  case neg =>
    have i1 : (d1 != 0) = true := by simpa using q1
    go_wp2_with fail
    go_ret
    exact ⟨rfl, by rw [← unhide eW4]; exact unhide F4⟩
  subst q1
  go_wp2_with fail
  rw [← unhide eW4]
  clear eW4
  have hpos : 0 < N := by
    rcases Nat.eq_zero_or_pos N with e | e
    · exfalso
      subst e
      have := List.eq_nil_of_length_eq_zero (unhide hNN)
      have h2 := unhide hd1
      rw [this, sm_4] at h2
      exact absurd h2 (by decide)
    · exact e
  refine (pick_any W4 z N hpos (by omega)).mono ?_
  rintro e W5 ⟨rfl, rfl⟩
  have hpl := pick_lt z hpos
  obtain ⟨n, hn⟩ : ∃ n, Hid (pick z N = n) := ⟨_, rfl⟩
  rw [unhide hn] at hpl
  rw [unhide hn]
  go_wp2_with fail
  refine (copyBytes_any _ B W5 (unhide R4) (unhide NB)).mono ?_
  rintro e W6 ⟨v6, rfl, ho6, hb6⟩
  have N6 : Hid (Rd W6 v6 B) := Rd.of_ro (Ro.of_own ho6)
  obtain ⟨a6, c6, e6, hc6, hm6⟩ := Ro.shape (Ro.of_own ho6)
  subst e6
  rw [unhide hNN] at hc6
  rw [unhide hNN] at N6
  rw [unhide hNN]
  have F6 : Hid (Below w.heap.size w W6) := (unhide F4).trans (hb6.mono (unhide F4).size)
  have R6 : Hid (Rd W6 (.slice va N vc) B) := (unhide R4).bl hb6
  have D6 : Hid (Rd W6 (.slice ua M uc) D) := (unhide D4).bl hb6
  clear F4 R4 D4
  clear hb6 ho6
  have i2 : (0 : Int) ≤ (n : Int) := by omega
  have i3 : (n : Int) ≤ (c6 : Int) := by omega
  have hm6' : c6 ≤ 9223372036854775807 := hm6
  go_wp2_with fail
  have hne := decP_less (unhide hd1) (n := n) (by rw [unhide hNN]; exact hpl)
  have hBl : (B.take n).length ≤ 140737488355328 := by have := unhide NB; rw [List.length_take]; omega
  refine (decP_any ((unhide N6).upto (k := n) (by rw [unhide hNN]; omega)) ((unhide OB).takeB n) hBl ((unhide HL).blw (unhide F6) (unhide HG))).mono ?_
  obtain ⟨d2, hd2⟩ : ∃ d2, Hid ((decP (B.take n)).2 = d2) := ⟨_, rfl⟩
  rw [unhide hd2] at hne
  rintro e W7 ⟨ca7, cn7, cc7, fa7, fn7, fc7, rfl, hb7, -, -⟩
  rw [unhide hd2]
  have F7 : Hid (Below w.heap.size w W7) := (unhide F6).trans (hb7.mono (unhide F6).size)
  have R7 : Hid (Rd W7 (.slice va N vc) B) := (unhide R6).bl hb7
  have D7 : Hid (Rd W7 (.slice ua M uc) D) := (unhide D6).bl hb7
  clear F6 R6 D6
  clear hb7 N6 hBl hc6 hm6 i2 i3 hm6'
  obtain ⟨W8, eW8⟩ : ∃ W8, Hid (W8 = W7.alloc (.cells #[.slice ca7 cn7 cc7, .slice fa7 fn7 fc7] 27)) := ⟨_, rfl⟩
  have hb8 : Below W7.heap.size W7 W8 := by rw [unhide eW8]; exact (Below.refl _ _).alloc (Nat.le_refl _) _
  have F8 : Hid (Below w.heap.size w W8) := (unhide F7).trans (hb8.mono (unhide F7).size)
  have R8 : Hid (Rd W8 (.slice va N vc) B) := (unhide R7).bl hb8
  have D8 : Hid (Rd W8 (.slice ua M uc) D) := (unhide D7).bl hb8
  clear F7 R7 D7
  clear hb8
  have i4 : (d2 == 0) = false := by simpa using hne
  go_wp2_with fail
  rw [← unhide eW8]
  clear eW8
  refine (copyBytes_any _ B W8 (unhide R8) (unhide NB)).mono ?_
  rintro e W9 ⟨v9, rfl, ho9, hb9⟩
  have N9 : Hid (Ro W9 1 v9 B.length (B.map By)) := Ro.of_own ho9
  have hge : Hid (∀ k, v9.ownBlock = some k → W8.heap.size ≤ k) := fun k hk => (ho9.lt k hk).1
  have HB9 := hide hb9
  have D9 : Hid (Rd W9 (.slice ua M uc) D) := (unhide D8).bl hb9
  clear hb9 ho9
  go_wp2_with (first | (at_builtin; refine wpList_appB rfl _ _ rfl v9 B rfl (unhide N9) (.slice ua M uc) D rfl (unhide D9) (unhide NS) ?_))
  intro v10 W10 hr10 hg10 hat10
  have hb10 : Below W8.heap.size W8 W10 := by
    have F : Fr (fun _ => False) W8 W10 := (Fr.of_below (unhide HB9)).grown hg10 (fun k hk => .inl (unhide hge k hk))
    exact F.below (Nat.le_refl _) (fun _ _ e => e)
  have N10 : Hid (Rd W10 v10 (B ++ D)) := Rd.of_ro (by rw [List.length_append, List.map_append]; exact hr10)
  have F10 : Hid (Below w.heap.size w W10) := (unhide F8).trans (hb10.mono (unhide F8).size)
  clear F8
  clear hb10 hr10 hg10 hat10 HB9 N9 D9 hge
  go_wp2_with fail
  refine (decP_any (unhide N10) ((unhide OB).app (unhide OD)) (by rw [List.length_append]; exact unhide NS) ((unhide HL).blw (unhide F10) (unhide HG))).mono ?_
  have hmo : Hid (M ≠ 0 → (decP (B ++ D)).2 ≠ 0) := fun q => decP_more (unhide hd1) (fun e => q (by rw [← unhide hMM, e]; rfl))
  obtain ⟨d3, hd3⟩ : ∃ d3, Hid ((decP (B ++ D)).2 = d3) := ⟨_, rfl⟩
  rw [unhide hd3] at hmo
  rintro e W11 ⟨ca11, cn11, cc11, fa11, fn11, fc11, rfl, hb11, -, -⟩
  have F11 : Hid (Below w.heap.size w W11) := (unhide F10).trans (hb11.mono (unhide F10).size)
  clear hb11
  rw [unhide hd3]
  by_cases q5 : M = 0
  · subst q5
    go_wp2_with fail
    go_ret
    exact ⟨rfl, (unhide F11).alloc (unhide F11).size _⟩
  · have i5 : ((M : Int) == 0) = false := by simp; exact q5
    have i6 : (d3 != 0) = true := by simpa using unhide hmo q5
    go_wp2_with fail
    go_ret
    exact ⟨rfl, (unhide F11).alloc (unhide F11).size _⟩
end Go.Proofs.YtpfogphpeegfdaaGreatDoor
