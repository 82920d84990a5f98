/-
  The document's table of what is met: one instruction.
-/
import Derived.Test.YtlogmdldjmkkjaaGreatDoorVFin
import Derived.Test.YtlogmdldjmkkjaaGreatDoorDOp
import Derived.Deep.RegionHeld3
import Derived.Test.YtlogmdldjmkkjaaGreatDoorVTab
namespace Go.Proofs.YtlogmdldjmkkjaaGreatDoor
open Go.RowKit
set_option linter.unusedVariables false
set_option linter.unusedSimpArgs false
def SH : ByteArray := ⟨(([48, 48, 32, 48, 49, 32, 48, 49, 32, 48, 49, 32, 48, 49, 32, 48, 49, 32, 48, 49, 32, 49, 48, 32, 49, 50, 32, 50, 50, 32, 48, 49, 32, 49, 48, 32, 50, 49, 32, 50, 49, 32, 50, 49, 32, 50, 49, 32, 50, 49].append [32, 49, 49, 32, 50, 49, 32, 50, 49, 32, 50, 49, 32, 49, 49, 32, 50, 49, 32, 50, 49, 32, 49, 49, 32, 50, 49, 32, 50, 49, 32, 50, 49, 32, 50, 49, 32, 49, 49, 32, 49, 49, 32, 49, 49, 32, 49, 49, 32, 49]).append ([49, 32, 49, 49, 32, 49, 49, 32, 49, 49, 32, 49, 49, 32, 50, 49, 32, 51, 49, 32, 48, 48, 32, 49, 48, 32, 49, 48, 32, 109, 49, 32, 49, 48, 32, 49, 48, 32, 109, 49, 32, 110, 49, 32, 48, 49, 32, 50, 49, 32].append [51, 48, 32, 50, 48, 32, 49, 49, 32, 49, 49, 32, 50, 48, 32, 49, 49, 32, 49, 48, 32, 49, 49, 32, 49, 48, 32, 48, 49, 32, 109, 48, 32, 48, 48, 32, 48, 49, 32, 50, 48, 32, 49, 49, 32, 49, 48, 32, 50, 49, 32])).toArray⟩
def bS (i : Nat) : Nat := (SH.data.toList.getD i 0).toNat
theorem SH_size : SH.size = 201 := by decide +kernel
theorem SH_at (i : Nat) (h : i < 201) : SH[i]? = some (UInt8.ofNat (bS i)) := by
  have : ∀ i : Fin 201, SH[i.val]? = some (UInt8.ofNat (bS i.val)) := by decide +kernel
  exact this ⟨i, h⟩
theorem bS_lt (i : Nat) : bS i < 256 := by unfold bS; exact UInt8.toNat_lt _
theorem SH_put (k : Nat) (h : k < 67) : bS (3 * k + 1) = 48 + pt k ∧ pt k ≤ 2 := by
  have : ∀ k : Fin 67, bS (3 * k.val + 1) = 48 + pt k.val ∧ pt k.val ≤ 2 := by decide +kernel
  exact this ⟨k, h⟩
theorem SH_take (k : Nat) (h : k < 67) : tk k ≤ 3 ∧ (kd k ≠ 6 → bS (3 * k) = 48 + tk k) ∧ (kd k = 6 → bS (3 * k) = 110 ∧ tk k = 0 ∨ bS (3 * k) = 109 ∧ tk k = 1) := by
  have : ∀ k : Fin 67, tk k.val ≤ 3 ∧ (kd k.val ≠ 6 → bS (3 * k.val) = 48 + tk k.val) ∧ (kd k.val = 6 → bS (3 * k.val) = 110 ∧ tk k.val = 0 ∨ bS (3 * k.val) = 109 ∧ tk k.val = 1) := by decide +kernel
  exact this ⟨k, h⟩

set_option maxRecDepth 100000 in
set_option maxHeartbeats 2000000 in
theorem number_n (w : World) (a : Int) : Calls Tryz.prog 187 #[.int .u8 110, .int .i64 a] w fun e w' => e = .returned (.int .i64 a) ∧ w' = w := by
  go_enter Tryz.func187, Tryz.ntmps187
  go_wp2
  go_ret
  exact ⟨rfl, rfl⟩
set_option maxRecDepth 100000 in
set_option maxHeartbeats 2000000 in
theorem number_m (w : World) (a : Int) (h0 : 0 ≤ a) (h1 : a < 64) : Calls Tryz.prog 187 #[.int .u8 109, .int .i64 a] w fun e w' => e = .returned (.int .i64 (a + 1)) ∧ w' = w := by
  have e : IntKind.i64.wrap (a + 1) = a + 1 := by rw [IntKind.wrap_i64]; omega
  go_enter Tryz.func187, Tryz.ntmps187
  go_wp2
  go_ret
  exact ⟨rfl, rfl⟩
set_option maxRecDepth 100000 in
set_option maxHeartbeats 2000000 in
theorem number_d (w : World) (a : Int) (d : Nat) (h : d ≤ 3) : Calls Tryz.prog 187 #[.int .u8 ((48 + d : Nat) : Int), .int .i64 a] w fun e w' => e = .returned (.int .i64 d) ∧ w' = w := by
  have : d = 0 ∨ d = 1 ∨ d = 2 ∨ d = 3 := by omega
  rcases this with rfl | rfl | rfl | rfl
  all_goals
    go_enter Tryz.func187, Tryz.ntmps187
    go_wp2
    go_ret
    exact ⟨rfl, rfl⟩

def Good (c a : Int) : Prop := c = 110 ∨ (c = 109 ∧ 0 ≤ a ∧ a < 64) ∨ (48 ≤ c ∧ c ≤ 51)
def numb (c a : Int) : Int := if c = 110 then a else if c = 109 then a + 1 else c - 48
theorem tnumber_any (w : World) (c a : Int) (h : Good c a) : Calls Tryz.prog 187 #[.int .u8 c, .int .i64 a] w fun e w' => e = .returned (.int .i64 (numb c a)) ∧ w' = w := by
  unfold numb
  rcases h with rfl | ⟨rfl, h0, h1⟩ | ⟨h0, h1⟩
  · exact number_n w a
  · exact number_m w a h0 h1
  · obtain ⟨d, rfl⟩ : ∃ d : Nat, c = ((48 + d : Nat) : Int) := ⟨(c - 48).toNat, by omega⟩
    have := number_d w a d (by omega)
    rw [if_neg (by omega), if_neg (by omega)]
    have e : (((48 + d : Nat) : Int) - 48) = (d : Int) := by omega
    rw [e]
    exact this

set_option maxRecDepth 100000 in
set_option maxHeartbeats 2000000 in
theorem dEffect_any (w : World) (op a : Int) (ha : I64 a) : Calls Tryz.prog 146 #[.agg #[.int .i64 op, .int .i64 a]] w fun e w' => e = .returned (.tuple #[.int .i64 (tkI op a), .int .i64 (ptI op a), .bool (okB op a)]) ∧ Below w.heap.size w w' := by
  have H1 := hide (fun w => dCheck_any w op a ha)
  clear ha
  cases hok : okB op a
  · have e1 : erN op a = 7 := by simp [erN, hok]
    have e2 : tkI op a = 0 := by simp [tkI, hok]
    have e3 : ptI op a = 0 := by simp [ptI, hok]
    rw [e2, e3]
    rw [e1] at H1
    clear e1 e2 e3 hok
    go_enter Tryz.func146, Tryz.ntmps146
    go_wp2_with fail
    refine (unhide H1 _).mono ?_
    rintro e w1 ⟨rfl, hb⟩
    have HB := hide hb
    clear hb
    go_wp2
    go_ret3
    exact ⟨rfl, Bl.par (unhide HB)⟩
  · have hop : isOp op = true := by simp [okB] at hok; exact hok.1
    have h : 0 ≤ op ∧ op < 67 := by simpa [isOp] using hop
    obtain ⟨k, rfl⟩ : ∃ k : Nat, op = k := ⟨op.toNat, by omega⟩
    have hk : k < 67 := by omega
    have e1 : erN k a = 0 := by simp [erN, hok]
    have e3 : ptI k a = pt k := by simp [ptI, hok]
    rw [e3]
    rw [e1] at H1
    have hA := hide SH_at
    have hS := SH_size
    obtain ⟨p1, p2⟩ := SH_put k hk
    obtain ⟨t1, t2, t3⟩ := SH_take k hk
    obtain ⟨b0, hb0⟩ : ∃ b, Hid (b = bS (3 * k)) := ⟨_, rfl⟩
    have HC : Hid (Good b0 a ∧ Good ((48 + pt k : Nat) : Int) a ∧ numb b0 a = tkI k a ∧ numb ((48 + pt k : Nat) : Int) a = pt k) := by
      unfold Hid Good numb
      rw [unhide hb0]
      refine ⟨?_, by omega, ?_, by rw [if_neg (by omega), if_neg (by omega)]; omega⟩
      all_goals
        by_cases h6 : kd k = 6
        · have hr : rightB 6 a = true := by rw [okB_op hk, h6] at hok; exact hok
          have hr := right6 hr
          have e2 : tkI k a = tk k + a := by simp [tkI, hok, h6]
          rcases t3 h6 with ⟨q1, q2⟩ | ⟨q1, q2⟩ <;> first | omega | (rw [q1, e2, q2]; simp) | (rw [q1, e2, q2]; simp; omega)
        · have e2 : tkI k a = tk k := by simp [tkI, hok, h6]
          have q1 := t2 h6
          first | omega | (rw [e2, q1, if_neg (by omega), if_neg (by omega)]; omega)
    have HT : Hid (∀ (c : Int), Good c a → ∀ w, Calls Tryz.prog 187 #[.int .u8 c, .int .i64 a] w fun e w' => e = .returned (.int .i64 (numb c a)) ∧ w' = w) := fun c h w => tnumber_any w c a h
    generalize tkI k a = t at *
    have hB0 : ∀ h, (SH[3 * k]'h).toNat = b0 := fun h => by
      have e := unhide hA (3 * k) (by omega)
      rw [getElem?_pos SH _ h] at e
      rw [Option.some.inj e, UInt8.toNat_ofNat', Nat.mod_eq_of_lt (bS_lt _)]
      exact (unhide hb0).symm
    have hB1 : ∀ h, (SH[3 * k + 1]'h).toNat = 48 + pt k := fun h => by
      have e := unhide hA (3 * k + 1) (by omega)
      rw [getElem?_pos SH _ h] at e
      rw [Option.some.inj e, UInt8.toNat_ofNat', Nat.mod_eq_of_lt (bS_lt _), p1]
    clear e1 e3 hok hop h t1 t2 t3 p1 p2 hA hb0
    generalize pt k = p at *
    have ew1 : IntKind.i64.wrap (3 * (k : Int)) = 3 * (k : Int) := by rw [IntKind.wrap_i64]; omega
    have ew2 : IntKind.i64.wrap (3 * (k : Int) + 1) = 3 * (k : Int) + 1 := by rw [IntKind.wrap_i64]; omega
    have et1 : (3 * (k : Int)).toNat = 3 * k := by omega
    have et2 : (3 * (k : Int) + 1).toNat = 3 * k + 1 := by omega
    have ez1 : (0 : Int) ≤ 3 * (k : Int) := by omega
    have ez2 : (0 : Int) ≤ 3 * (k : Int) + 1 := by omega
    have es1 : 3 * k < SH.size := by rw [hS]; omega
    have es2 : 3 * k + 1 < SH.size := by rw [hS]; omega
    clear hS
    go_enter Tryz.func146, Tryz.ntmps146
    generalize hM : ByteArray.mk ((([48, 48, 32, 48, 49, 32, 48, 49, 32, 48, 49, 32, 48, 49, 32, 48, 49, 32, 48, 49, 32, 49, 48, 32, 49, 50, 32, 50, 50, 32, 48, 49, 32, 49, 48, 32, 50, 49, 32, 50, 49, 32, 50, 49, 32, 50, 49, 32, 50, 49].append [32, 49, 49, 32, 50, 49, 32, 50, 49, 32, 50, 49, 32, 49, 49, 32, 50, 49, 32, 50, 49, 32, 49, 49, 32, 50, 49, 32, 50, 49, 32, 50, 49, 32, 50, 49, 32, 49, 49, 32, 49, 49, 32, 49, 49, 32, 49, 49, 32, 49]).append ([49, 32, 49, 49, 32, 49, 49, 32, 49, 49, 32, 49, 49, 32, 50, 49, 32, 51, 49, 32, 48, 48, 32, 49, 48, 32, 49, 48, 32, 109, 49, 32, 49, 48, 32, 49, 48, 32, 109, 49, 32, 110, 49, 32, 48, 49, 32, 50, 49, 32].append [51, 48, 32, 50, 48, 32, 49, 49, 32, 49, 49, 32, 50, 48, 32, 49, 49, 32, 49, 48, 32, 49, 49, 32, 49, 48, 32, 48, 49, 32, 109, 48, 32, 48, 48, 32, 48, 49, 32, 50, 48, 32, 49, 49, 32, 49, 48, 32, 50, 49, 32])).toArray) = M at *
    have hM' : SH = M := hM
    clear hM
    subst hM'
    go_wp2_with fail
    refine (unhide H1 _).mono ?_
    rintro e w1 ⟨rfl, hb⟩
    have HB := hide hb
    obtain ⟨c0, c1⟩ := par_cells hb
    clear hb
    go_wp2_with fail
    go_quiet (first | (go_at_call 187; exact Calls.quiet_of_same (unhide HT _ (by first | exact (unhide HC).1 | exact (unhide HC).2.1) _)))
    go_wp2_with fail
    go_ret3
    have q1 := (unhide HC).2.2.1
    have q2 := (unhide HC).2.2.2
    refine ⟨?_, Below.drewN (Bl.par (unhide HB)) _⟩
    show Ending.returned (.tuple #[.int .i64 (numb (b0 : Int) a), .int .i64 (numb ((48 + p : Nat) : Int) a), .bool true]) = _
    rw [q1, q2]
set_option maxRecDepth 100000 in
set_option maxHeartbeats 1000000 in
theorem dJumps_any (w : World) (op : Int) : Calls Tryz.prog 207 #[.int .i64 op] w fun e w' => e = .returned (.bool (jmB op)) ∧ w' = w := by
  unfold jmB
  by_cases h0 : op = 40 <;> by_cases h1 : op = 41 <;> by_cases h2 : op = 42
  all_goals first | (exfalso; omega) | skip
  all_goals
    go_enter Tryz.func207, Tryz.ntmps207
    go_wp2
    go_ret
    simp_all
set_option maxRecDepth 100000 in
set_option maxHeartbeats 1000000 in
theorem dEnds_any (w : World) (op : Int) : Calls Tryz.prog 101 #[.int .i64 op] w fun e w' => e = .returned (.bool (enB op)) ∧ w' = w := by
  unfold enB
  by_cases h0 : op = 40 <;> by_cases h1 : op = 44 <;> by_cases h2 : op = 45
  all_goals first | (exfalso; omega) | skip
  all_goals
    go_enter Tryz.func101, Tryz.ntmps101
    go_wp2
    go_ret
    simp_all
/-- The places behind an instruction. -/
def nxl (N : Nat) (op a : Int) (p : Nat) : List Int := (if jmB op then [a] else []) ++ (if enB op = false ∧ p + 1 < N then [(p : Int) + 1] else [])
set_option maxRecDepth 100000 in
set_option maxHeartbeats 6400000 in
theorem tnext_any {w : World} {f : Fc} {x : Fv} {p : Nat} {op a : Int} (hx : FnV w f x) (hi : f.code[p]? = some (op, a)) (hN : f.code.length ≤ 2000) :
    Calls Tryz.prog 186 #[.agg #[.string x.name, .int .i64 x.params, .int .i64 x.locals, x.cv, x.hv], .int .i64 (p : Int)] w fun e w' => ∃ v, e = .returned v ∧ Gn w (nxl f.code.length op a p) v w' := by
  obtain ⟨cb, co, cc, ecv, _, _, lc, hc⟩ := Rx.elem zI hx.2.2.2.1 hi
  obtain ⟨N, hNN⟩ : ∃ N, Hid (f.code.length = N) := ⟨_, rfl⟩
  have hp : p < N := by rw [← unhide hNN]; exact (List.getElem?_eq_some_iff.1 hi).1
  rw [unhide hNN] at ecv hN
  have k0 := hc 0 _ rfl
  have k1 := hc 1 _ rfl
  rw [Nat.add_zero] at k0
  obtain ⟨_, ha2, hc2, ehv, _, _, _⟩ := hx.2.2.2.2
  obtain ⟨jm, hJ⟩ : ∃ T, Hid (jmB op = T) := ⟨_, rfl⟩
  obtain ⟨en, hE⟩ : ∃ T, Hid (enB op = T) := ⟨_, rfl⟩
  have HJ : Hid (∀ w, Calls Tryz.prog 207 #[.int .i64 op] w fun e w' => e = .returned (.bool jm) ∧ Below w.heap.size w w') := fun w => by rw [← unhide hJ]; exact (dJumps_any w op).mono fun e w' h => ⟨h.1, h.2 ▸ Below.refl _ _⟩
  have HE : Hid (∀ w, Calls Tryz.prog 101 #[.int .i64 op] w fun e w' => e = .returned (.bool en) ∧ w' = w) := fun w => by rw [← unhide hE]; exact dEnds_any w op
  have HNX : Hid (nxl f.code.length op a p = (if jm then [a] else []) ++ (if en = false ∧ p + 1 < N then [(p : Int) + 1] else [])) := by unfold Hid nxl; rw [unhide hJ, unhide hE, unhide hNN]
  obtain ⟨nm, pr, lcl, cv', hv'⟩ := x
  simp only at ecv ehv
  subst ecv ehv
  have p0 : (0 : Int) ≤ (p : Int) := by omega
  have p1 : (p : Int) < (N : Int) := by omega
  have hpw : IntKind.i64.wrap ((p : Int) + 1) = (p : Int) + 1 := by rw [IntKind.wrap_i64]; omega
  obtain ⟨X2, eX2⟩ : ∃ X2, X2 = (w.alloc (.cells #[.string nm, .int .i64 pr, .int .i64 lcl, .slice (some ⟨cb, co, none⟩) N cc, .slice ha2 f.hs.length hc2] 73)).alloc (.cells #[.int .i64 op, .int .i64 a] 92) := ⟨_, rfl⟩
  have f2 : Below w.heap.size w X2 := by rw [eX2]; exact ((Below.refl _ w).alloc (Nat.le_refl _) _).alloc (by simp) _
  have s2 : X2.heap.size = w.heap.size + 2 := by rw [eX2]; simp
  have nb := fun j z (hz : #[Value.string nm, .int .i64 pr, .int .i64 lcl, .slice (some ⟨cb, co, none⟩) N cc, .slice ha2 f.hs.length hc2].toList[j]? = some z) => new_cells w #[.string nm, .int .i64 pr, .int .i64 lcl, .slice (some ⟨cb, co, none⟩) N cc, .slice ha2 f.hs.length hc2] 73 j z hz
  have nb2 := fun j z (hz : #[Value.int .i64 op, .int .i64 a].toList[j]? = some z) => new_cells (w.alloc (.cells #[.string nm, .int .i64 pr, .int .i64 lcl, .slice (some ⟨cb, co, none⟩) N cc, .slice ha2 f.hs.length hc2] 73)) #[.int .i64 op, .int .i64 a] 92 j z hz
  have b3 : X2.cell? ⟨w.heap.size, 3, none⟩ = some (.slice (some ⟨cb, co, none⟩) N cc) := by
    have := nb 3 _ rfl; rw [Go.WideShapes.add_plain] at this
    rw [eX2]; exact (World.cell?_alloc_lt _ _ _ (by show w.heap.size < _; simp)).trans this
  have i0 : X2.cell? ⟨w.heap.size + 1, 0, none⟩ = some (.int .i64 op) := by
    have := nb2 0 _ rfl; rw [Go.WideShapes.add_plain, World.size_alloc] at this; rw [eX2]; exact this
  have i1 : X2.cell? ⟨w.heap.size + 1, 1, none⟩ = some (.int .i64 a) := by
    have := nb2 1 _ rfl; rw [Go.WideShapes.add_plain, World.size_alloc] at this; rw [eX2]; exact this
  have HF2 := hide f2
  clear hx hi hc nb nb2 f2
  go_enter Tryz.func186, Tryz.ntmps186
  go_wp2_with fail
  rw [← eX2]
  refine (unhide HJ _).mono ?_
  rintro e X3 ⟨rfl, hb3⟩
  have b3 := hb3.cell (p := ⟨w.heap.size, 3, none⟩) (by show w.heap.size < _; omega) |>.trans b3
  have i0 := hb3.cell (p := ⟨w.heap.size + 1, 0, none⟩) (by show w.heap.size + 1 < _; omega) |>.trans i0
  have i1 := hb3.cell (p := ⟨w.heap.size + 1, 1, none⟩) (by show w.heap.size + 1 < _; omega) |>.trans i1
  have hs3 := hb3.size
  rw [s2] at hs3
  have lb : w.heap.size < X3.heap.size := by omega
  have li : w.heap.size + 1 < X3.heap.size := by omega
  have G0 : Hid (Gn w [] (.slice none 0 0) X3) := ⟨Ro.nil _ _, (unhide HF2).trans (hb3.mono (by have := (unhide HF2).size; omega)), fun k hk => by simp [Value.ownBlock] at hk⟩
  clear hb3 k0 k1 lc eX2
  cases jm with
  | true =>
    go_wp2_with (first | (at_builtin; refine wpList_appN rfl _ _ rfl (.slice none 0 0) [] rfl (Ro.nil _ _) ⟨X3.heap.size, 0, none⟩ 1 a rfl (new_cells X3 #[.int .i64 a] 3) (by simp) ?_; intro v4 w4 hr4 hg4 hat4; obtain ⟨va, vc, ev, _, _⟩ := hr4.shape; subst ev; have G1 := hide ((unhide G0).push (p := a) hr4 rfl hg4 hat4); have f4 := ((Fr.refl (fun _ => False) X3).alloc (.cells #[.int .i64 a] 3)).grown hg4 (fun k e => by cases e); have b3 := (f4.cell (a := ⟨w.heap.size, 3, none⟩) lb (fun e => e)).trans b3; have i0 := (f4.cell (a := ⟨w.heap.size + 1, 0, none⟩) li (fun e => e)).trans i0; have lb := Nat.lt_of_lt_of_le lb f4.size; have li := Nat.lt_of_lt_of_le li f4.size; clear hr4 hg4 hat4 f4))
    refine (unhide HE _).mono ?_
    rintro e X5 ⟨rfl, rfl⟩
    have hcf : ¬ (False) := id
    cases en with
    | true =>
      go_wp2_with fail
      go_ret
      exact ⟨_, rfl, by rw [unhide HNX]; simpa using unhide G1⟩
    | false =>
      by_cases hp1 : p + 1 < N
      · have hp2 : (p : Int) + 1 < (N : Int) := by omega
        go_wp2_with (first | (at_builtin; refine wpList_appN rfl _ _ rfl (.slice va 1 vc) [a] rfl ((unhide G1).1.keep (fun g hg => Below.heap_alloc _ _ _ ((unhide G1).1.lt g hg))) ⟨X5.heap.size, 0, none⟩ 1 ((p : Int) + 1) rfl (new_cells X5 #[.int .i64 ((p : Int) + 1)] 3) (by simp) ?_; intro v6 w6 hr6 hg6 hat6; obtain ⟨va6, vc6, ev6, _, _⟩ := hr6.shape; subst ev6; have G2 := hide ((unhide G1).push (p := (p : Int) + 1) hr6 rfl hg6 hat6); clear hr6 hg6 hat6))
        go_ret
        exact ⟨_, rfl, by rw [unhide HNX]; simpa [hp1] using unhide G2⟩
      · have hp2 : ¬ (p : Int) + 1 < (N : Int) := by omega
        go_wp2_with fail
        go_ret
        exact ⟨_, rfl, by rw [unhide HNX, if_neg (c := _ ∧ _) (fun q => hp1 q.2)]; simpa using unhide G1⟩
  | false =>
    go_wp2_with fail
    refine (unhide HE _).mono ?_
    rintro e X5 ⟨rfl, rfl⟩
    have hcf : ¬ (False) := id
    cases en with
    | true =>
      go_wp2_with fail
      go_ret
      exact ⟨_, rfl, by rw [unhide HNX]; simpa using unhide G0⟩
    | false =>
      by_cases hp1 : p + 1 < N
      · have hp2 : (p : Int) + 1 < (N : Int) := by omega
        go_wp2_with (first | (at_builtin; refine wpList_appN rfl _ _ rfl (.slice none 0 0) [] rfl ((unhide G0).1.keep (fun g hg => Below.heap_alloc _ _ _ ((unhide G0).1.lt g hg))) ⟨X5.heap.size, 0, none⟩ 1 ((p : Int) + 1) rfl (new_cells X5 #[.int .i64 ((p : Int) + 1)] 3) (by simp) ?_; intro v6 w6 hr6 hg6 hat6; obtain ⟨va6, vc6, ev6, _, _⟩ := hr6.shape; subst ev6; have G2 := hide ((unhide G0).push (p := (p : Int) + 1) hr6 rfl hg6 hat6); clear hr6 hg6 hat6))
        go_ret
        exact ⟨_, rfl, by rw [unhide HNX]; simpa [hp1] using unhide G2⟩
      · have hp2 : ¬ (p : Int) + 1 < (N : Int) := by omega
        go_wp2_with fail
        go_ret
        exact ⟨_, rfl, by rw [unhide HNX, if_neg (c := _ ∧ _) (fun q => hp1 q.2)]; simpa using unhide G0⟩
set_option linter.unusedVariables false
set_option linter.unusedSimpArgs false
theorem nxl_len (N : Nat) (op a : Int) (p : Nat) : (nxl N op a p).length ≤ 2 := by
  unfold nxl
  split <;> split <;> simp

theorem nxl_bd {f : Fc} (h : OkF f) {p : Nat} {op a t : Int} (hi : f.code[p]? = some (op, a)) (ht : t ∈ nxl f.code.length op a p) : 0 ≤ t ∧ t < (f.code.length : Int) := by
  obtain ⟨ho, hj⟩ := h.ins p op a hi
  unfold nxl at ht
  rw [List.mem_append] at ht
  rcases ht with ht | ht
  · split at ht
    · rename_i q
      simp at ht
      rw [ht]
      exact hj q
    · simp at ht
  · split at ht
    · rename_i q
      simp at ht
      omega
    · simp at ht

set_option linter.unusedVariables false
set_option linter.unusedSimpArgs false
/-- The table in memory. -/
def TB (w : World) (g N : Nat) (L : List Bool) : Prop := Ro w 1 (.slice (some ⟨g, 0, none⟩) N N) N (L.map Value.bool)
theorem TB.len {w : World} {g N : Nat} {L : List Bool} (h : TB w g N L) : L.length = N := by have := h.1; simpa using this
theorem TB.lt {w : World} {g N : Nat} {L : List Bool} (h : TB w g N L) : g < w.heap.size := Ro.lt h g rfl
theorem TB.at {w : World} {g N : Nat} {L : List Bool} (h : TB w g N L) {i : Nat} {b : Bool} (hb : L[i]? = some b) : w.cell? ⟨g, i, none⟩ = some (.bool b) := by
  have hi : i < N := by rw [← h.len]; exact (List.getElem?_eq_some_iff.1 hb).1
  obtain ⟨g', off, cap, e, _, _, _, hc⟩ := Ro.full h (by omega)
  cases e
  have := hc i (by omega)
  rw [Nat.zero_add, List.getElem?_map, hb] at this
  exact this
theorem TB.free {w : World} {g N : Nat} {L : List Bool} (h : TB w g N L) (k : Nat) : w.frozen? ⟨g, k, none⟩ = false := Ro.free h rfl k
theorem TB.fr {S : Nat → Prop} {w w' : World} {g N : Nat} {L : List Bool} (h : TB w g N L) (f : Fr S w w') (hS : ¬ S g) : TB w' g N L := Ro.fr h f (fun k hk => by cases hk; exact hS)
theorem TB.put {w : World} {g N : Nat} {L : List Bool} (h : TB w g N L) {i : Nat} (hi : i < N) : TB (w.setCell ⟨g, i, none⟩ (.bool true)) g N (L.set i true) := by
  have hl := h.1
  have := (Ro.sets h (v := .slice (some ⟨g, 0, none⟩) N N) rfl (o := i) (m := N) (vs := [.bool true]) (ys := (L.set i true).map Value.bool) (by omega) (by simp; omega) (Nat.le_refl _) (by simpa using hl) (fun j hj => ?_) (fun j hj q => by omega)).1
  · exact this
  · rw [List.map_set]
    have hl2 : (L.map Value.bool).length = N := by simpa using hl
    by_cases q : j = i
    · subst q
      rw [if_pos (by simp), List.getElem?_set_self (by omega)]
      simp
    · rw [if_neg (by simp; omega), List.getElem?_set_ne (by omega)]
theorem TB.drewN {w : World} {g N : Nat} {L : List Bool} (h : TB w g N L) (k : Nat) : TB (w.drewN k) g N L := h.fr (S := fun _ => False) (Fr.drewN k) (fun e => e)
theorem getD_at {L : List Bool} {i : Nat} (hi : i < L.length) : L[i]? = some (L.getD i false) := by
  rw [List.getD_eq_getElem?_getD, List.getElem?_eq_getElem hi]; rfl
set_option maxRecDepth 100000 in
set_option maxHeartbeats 1000000 in
theorem holds_any (w : World) (h : Hd) (p : Int) : Calls Tryz.prog 147 #[.agg #[.int .i64 h.frm, .int .i64 h.to, .int .i64 h.target, .int .i64 h.height], .int .i64 p] w fun e w' => e = .returned (.bool (hol h p)) ∧ Below w.heap.size w w' := by
  have HB : Hid (Below w.heap.size w (w.alloc (.cells #[.int .i64 h.frm, .int .i64 h.to, .int .i64 h.target, .int .i64 h.height] 112))) := (Below.refl _ _).alloc (Nat.le_refl _) _
  obtain ⟨h1, h2, h3, h4⟩ := h
  unfold hol
  simp only at HB ⊢
  by_cases c1 : h1 ≤ p
  · by_cases c2 : p < h2
    · have e : (decide (h1 ≤ p) && decide (p < h2)) = true := by simp [c1, c2]
      rw [e]
      go_enter Tryz.func147, Tryz.ntmps147
      go_wp2_with fail
      go_ret
      exact ⟨rfl, unhide HB⟩
    · have e : (decide (h1 ≤ p) && decide (p < h2)) = false := by simp [c1, c2]
      rw [e]
      go_enter Tryz.func147, Tryz.ntmps147
      go_wp2_with fail
      go_ret
      exact ⟨rfl, unhide HB⟩
  · have e : (decide (h1 ≤ p) && decide (p < h2)) = false := by simp [c1]
    rw [e]
    go_enter Tryz.func147, Tryz.ntmps147
    go_wp2_with fail
    go_ret
    exact ⟨rfl, unhide HB⟩
/-- The next spots are the next places at one height. -/
theorem nx_map {N : Nat} {op a ht : Int} {p : Nat} (h : ¬ (ht - tkI op a < 0 ∨ 64 < ht - tkI op a + ptI op a)) : nx N op a p ht = (nxl N op a p).map (fun t => (t, ht - tkI op a + ptI op a)) := by
  unfold nx nxl
  rw [if_neg h, List.map_append]
  congr 1
  · cases jmB op <;> simp
  · cases he : enB op <;> by_cases hp : p + 1 < N <;> simp [hp]
theorem tbox5 {w wr : World} {u0 u1 u2 u3 u4 : Value} {e : TypeId} (h : Below (w.heap.size + 1) (w.alloc (.cells #[u0, u1, u2, u3, u4] e)) wr) :
    wr.cell? ⟨w.heap.size, 0, none⟩ = some u0 ∧ wr.cell? ⟨w.heap.size, 1, none⟩ = some u1 ∧ wr.cell? ⟨w.heap.size, 2, none⟩ = some u2 ∧ wr.cell? ⟨w.heap.size, 3, none⟩ = some u3 ∧ wr.cell? ⟨w.heap.size, 4, none⟩ = some u4 ∧ Below w.heap.size w wr ∧ w.heap.size < wr.heap.size := by
  have hs := h.size
  simp only [World.size_alloc] at hs
  have n := fun j z (hz : #[u0, u1, u2, u3, u4].toList[j]? = some z) => new_cells w #[u0, u1, u2, u3, u4] e j z hz
  have c : ∀ j z, #[u0, u1, u2, u3, u4].toList[j]? = some z → wr.cell? ⟨w.heap.size, j, none⟩ = some z := fun j z hz => (h.cell (p := ⟨w.heap.size, j, none⟩) (Nat.lt_succ_self _)).trans (by have := n j z hz; rw [Go.WideShapes.add_plain, Nat.zero_add] at this; exact this)
  exact ⟨c 0 _ rfl, c 1 _ rfl, c 2 _ rfl, c 3 _ rfl, c 4 _ rfl, ((Below.refl _ w).alloc (Nat.le_refl _) _).trans (h.mono (Nat.le_succ _)), by omega⟩
theorem ok_I64 {op a : Int} (h : okB op a = true) : I64 a := by
  unfold okB at h
  rw [Bool.and_eq_true] at h
  have hk := kd_lt op.toNat
  have h2 := h.2
  unfold I64
  generalize kd op.toNat = k at hk h2
  unfold rightB at h2
  have key : ∀ k : Fin 9, -9223372036854775808 ≤ lo k.val ∧ hi k.val ≤ 9223372036854775807 := by decide +kernel
  have := key ⟨k, hk⟩
  simp only at this
  split at h2
  · have := of_decide_eq_true h2; omega
  · have := of_decide_eq_true h2; omega
/-- One consequence more. -/
theorem fold_snoc (C : List Spot) (i : Nat) {s : Spot} (hs : C[i]? = some s) (P : List Bool × Bool) : (C.take (i + 1)).foldl mkT P = mkT ((C.take i).foldl mkT P) s := by
  rw [List.take_add_one, hs, List.foldl_append]
  rfl
/-- The handlers' part, as it is gone through. -/
theorem ph_skip {hs : List Hd} {p : Int} {P : List Bool × Bool} {j : Nat} {k : Hd} (hk : hs[j]? = some k) (hh : hol k p = false) : (((hs.take (j + 1)).filter (fun h => hol h p)).map tgt).foldl mkT P = (((hs.take j).filter (fun h => hol h p)).map tgt).foldl mkT P := by
  rw [List.take_add_one, hk, List.filter_append]
  simp [hh]
theorem ph_step {hs : List Hd} {p : Int} {P : List Bool × Bool} {j : Nat} {k : Hd} (hk : hs[j]? = some k) (hh : hol k p = true) : (((hs.take (j + 1)).filter (fun h => hol h p)).map tgt).foldl mkT P = mkT ((((hs.take j).filter (fun h => hol h p)).map tgt).foldl mkT P) (tgt k) := by
  rw [List.take_add_one, hk, List.filter_append, List.map_append, List.foldl_append]
  simp [hh]
set_option maxRecDepth 100000 in
set_option maxHeartbeats 6400000 in
theorem meets_any {w0 w : World} {f : Fc} {x : Fv} {g N p h : Nat} {L : List Bool} {op a : Int} (hf : OkF f) (hx : FnV w0 f x) (hB : Below w0.heap.size w0 w) (hg : w0.heap.size ≤ g) (T : TB w g N L) (hN : N = f.code.length * 65) (hi : f.code[p]? = some (op, a)) (hh : h < 65) (hin : ∀ s ∈ conS f op a p (h : Int), ixS s < N) :
    Calls Tryz.prog 145 #[.agg #[.string x.name, .int .i64 x.params, .int .i64 x.locals, x.cv, x.hv], .slice (some ⟨g, 0, none⟩) N N, .int .i64 (p : Int), .int .i64 (h : Int)] w fun e w' => e = .returned (.bool ((conS f op a p (h : Int)).foldl mkT (L, false)).2) ∧ TB w' g N ((conS f op a p (h : Int)).foldl mkT (L, false)).1 ∧ Fr (fun k => k = g) w w' := by
  obtain ⟨hok, hja⟩ := hf.ins p op a hi
  have htp := tp_bounds hok
  have hp : p < f.code.length := (List.getElem?_eq_some_iff.1 hi).1
  have hnm := hf.nm
  have hlt := T.lt
  have hxw := hx.below hB (Nat.le_refl _)
  have HX0 := hide hx
  have HOF := hide hf
  have HIN := hide hin
  have HI := hide hi
  obtain ⟨R, hR⟩ : ∃ R, Hid ((conS f op a p (h : Int)).foldl mkT (L, false) = R) := ⟨_, rfl⟩
  rw [unhide hR]
  obtain ⟨cb, co, cc, ecv, _, _, lc, hc⟩ := Rx.elem zI hxw.2.2.2.1 hi
  have c0 := hc 0 _ rfl
  have c1 := hc 1 _ rfl
  rw [Nat.add_zero] at c0
  have HEf := hide (fun w => dEffect_any w op a (ok_I64 hok))
  obtain ⟨tkv, htk⟩ : ∃ t : Nat, Hid (tkI op a = (t : Int)) := ⟨(tkI op a).toNat, by unfold Hid; omega⟩
  obtain ⟨ptv, hpt⟩ : ∃ t : Nat, Hid (ptI op a = (t : Int)) := ⟨(ptI op a).toNat, by unfold Hid; omega⟩
  have HTP : Hid (tkv ≤ 66 ∧ ptv ≤ 2) := by have := unhide htk; have := unhide hpt; unfold Hid; omega
  rw [unhide htk, unhide hpt, hok] at HEf
  obtain ⟨NC, hNC⟩ : ∃ n, Hid (f.code.length = n) := ⟨_, rfl⟩
  obtain ⟨NH, hNH⟩ : ∃ n, Hid (f.hs.length = n) := ⟨_, rfl⟩
  have HNm : Hid (NC ≤ 2000 ∧ N = NC * 65 ∧ f.code.length = NC ∧ NH ≤ 1000) := by have := hf.hm; unfold Hid; rw [← unhide hNC, ← unhide hNH]; exact ⟨hnm, hN, rfl, this⟩
  rw [unhide hNC] at ecv hp
  have HT := hide T
  have HB0' := hide hB
  have HG := hide hg
  have HOK := hide hok
  have HJA := hide hja
  have p0 : (0 : Int) ≤ (p : Int) := by omega
  have p1 : (p : Int) < (NC : Int) := by omega
  obtain ⟨xn, xp, xl, xcv, hv⟩ := x
  simp only at ecv
  subst ecv
  have hshape := hxw.2.2.2.2
  simp only at hshape
  obtain ⟨_, ha2, hc2, ehv0, _, _, _⟩ := hshape
  have hhvv : Hid (hv = .slice ha2 NH hc2) := by unfold Hid; rw [← unhide hNH]; exact ehv0
  have HNXT := hide (fun (wx : World) (hb : Below w0.heap.size w0 wx) => tnext_any (unhide HX0 |>.below hb (Nat.le_refl _)) hi hnm)
  simp only at HNXT
  obtain ⟨X1, eX1⟩ : ∃ X1, X1 = w.alloc (.cells #[.string xn, .int .i64 xp, .int .i64 xl, .slice (some ⟨cb, co, none⟩) NC cc, hv] 73) := ⟨_, rfl⟩
  have f1 : Hid (Below (w.heap.size + 1) (w.alloc (.cells #[.string xn, .int .i64 xp, .int .i64 xl, .slice (some ⟨cb, co, none⟩) NC cc, hv] 73)) X1) := by unfold Hid; rw [eX1]; exact Below.refl _ _
  obtain ⟨y0, y1, y2, y3, y4, yb, yl⟩ := tbox5 (unhide f1)
  have c0 := (yb.cell (p := ⟨cb, co + p * 2, none⟩) lc).trans c0
  have c1 := (yb.cell (p := ⟨cb, co + p * 2 + 1, none⟩) lc).trans c1
  have lcx : cb < X1.heap.size := by omega
  clear hok hja htp hx hB hg T hN hi hin hxw hc ehv0 yb hf hlt hnm
  go_enter Tryz.func145, Tryz.ntmps145
  go_wp2_with fail
  rw [← eX1]
  clear eX1
  refine (unhide HEf _).mono ?_
  rintro e W2 ⟨rfl, hb⟩
  have F2 : Hid (Below (w.heap.size + 1) (w.alloc (.cells #[.string xn, .int .i64 xp, .int .i64 xl, .slice (some ⟨cb, co, none⟩) NC cc, hv] 73)) W2) := (unhide f1).trans (hb.mono (by have := (unhide f1).size; simp at this; omega))
  clear hb y0 y1 y2 y3 y4 yl c0 c1 lcx
  obtain ⟨y0, y1, y2, y3, y4, yb, yl⟩ := tbox5 (unhide F2)
  have HYB := hide yb
  have HYL := hide yl
  clear yb
  have w1 : IntKind.i64.wrap ((h : Int) - (tkv : Int)) = (h : Int) - (tkv : Int) := by rw [IntKind.wrap_i64]; have := unhide HTP; omega
  have w2' : IntKind.i64.wrap ((h : Int) - (tkv : Int) + (ptv : Int)) = (h : Int) - (tkv : Int) + (ptv : Int) := by rw [IntKind.wrap_i64]; have := unhide HTP; omega
  have HB02 : Hid (Below w0.heap.size w0 W2) := (unhide HB0').trans ((unhide HYB).mono (unhide HB0').size)
  have TW2 : Hid (TB W2 g N L) := (unhide HT).fr (S := fun _ => False) (Fr.of_below (unhide HYB)) (fun e => e)
  have FW2 : Hid (Fr (fun k => k = g) w W2) := Fr.of_below (unhide HYB)
  have HNG : Hid (w.heap.size ≠ g) := by have := (unhide HT).lt; unfold Hid; omega
  by_cases hfit : tkv ≤ h ∧ h - tkv + ptv < 65
  · obtain ⟨bh, hbh⟩ : ∃ b : Nat, Hid (b = h - tkv + ptv) := ⟨_, rfl⟩
    have e1 : (tkv : Int) ≤ (h : Int) := by omega
    have e2 : (h : Int) - (tkv : Int) + (ptv : Int) = (bh : Int) := by have := unhide hbh; omega
    have e3 : (bh : Int) < 65 := by have := unhide hbh; omega
    have w2a : IntKind.i64.wrap ((h : Int) - (tkv : Int) + (ptv : Int)) = (bh : Int) := w2'.trans e2
    clear w2'
    have HNX : Hid (conS f op a p (h : Int) = (nxl f.code.length op a p).map (fun t => (t, (bh : Int))) ++ (f.hs.filter (fun h => hol h p)).map tgt) := by
      unfold Hid conS
      rw [nx_map (by rw [unhide htk, unhide hpt]; omega), unhide htk, unhide hpt, e2]
    clear hfit e2
    go_wp2_with fail
    refine (unhide HNXT _ (unhide HB02)).mono ?_
    rintro e W3 ⟨nv, rfl, hG⟩
    obtain ⟨na, ncap, env, _, _⟩ := hG.1.shape
    subst env
    have HG3 := hide hG
    have F3 : Hid (Fr (fun _ => False) W2 W3) := Fr.of_below hG.2.1
    clear hG y0 y1 y2 y3 y4 yl
    obtain ⟨NN, hNN⟩ : ∃ n, Hid ((nxl f.code.length op a p).length = n) := ⟨_, rfl⟩
    rw [unhide hNN]
    have HNN2 : Hid (NN ≤ 2) := by unfold Hid; rw [← unhide hNN]; exact nxl_len _ _ _ _
    obtain ⟨C1, hC1⟩ : ∃ C, Hid ((nxl f.code.length op a p).map (fun t => (t, (bh : Int))) = C) := ⟨_, rfl⟩
    have hC1l : Hid (C1.length = NN) := by unfold Hid; rw [← unhide hC1, List.length_map]; exact unhide hNN
    have TW3 : Hid (TB W3 g N L) := (unhide TW2).fr (unhide F3) (fun e => e)
    have HLW3 : Hid (w.heap.size < W3.heap.size) := Nat.lt_of_lt_of_le (unhide HYL) (unhide F3).size
    have HB3 : Hid (W3.cell? ⟨w.heap.size, 3, none⟩ = some (.slice (some ⟨cb, co, none⟩) NC cc) ∧ W3.cell? ⟨w.heap.size, 4, none⟩ = some hv) := by
      obtain ⟨_, _, _, z3, z4, _, zl⟩ := tbox5 (unhide F2)
      exact ⟨((unhide F3).cell (a := ⟨w.heap.size, 3, none⟩) zl (fun e => e)).trans z3, ((unhide F3).cell (a := ⟨w.heap.size, 4, none⟩) zl (fun e => e)).trans z4⟩
    have FW3 : Hid (Fr (fun k => k = g) w W3) := (unhide FW2).trans ((unhide F3).mono (fun _ _ e => e.elim))
    go_wp2_with fail
    go_loopg [12, 15] NN (fun gg t12 t15 wr => ∃ (j : Nat) (b : Bool), Hid (j + gg = NN) ∧ t15 = .int .i64 (j : Int) ∧ t12 = .bool b ∧ Hid (TB wr g N ((C1.take j).foldl mkT (L, false)).1 ∧ ((C1.take j).foldl mkT (L, false)).2 = b) ∧ Hid (Fr (fun k => k = g) W3 wr))
    case atStart => exact ⟨0, _, by unfold Hid; omega, rfl, rfl, ⟨unhide TW3, rfl⟩, Fr.refl _ _⟩
    case round =>
      obtain ⟨j, b, hj, rfl, rfl, hT, hF⟩ := hrel
      by_cases hlt : j < NN
      · obtain ⟨t, ht⟩ : ∃ t, (nxl f.code.length op a p)[j]? = some t := ⟨_, List.getElem?_eq_getElem (by rw [unhide hNN]; exact hlt)⟩
        have hs : C1[j]? = some (t, (bh : Int)) := by rw [← unhide hC1, List.getElem?_map, ht]; rfl
        have hst := fold_snoc C1 j hs (L, false)
        have hix := unhide HIN (t, (bh : Int)) (by rw [unhide HNX]; exact List.mem_append.2 (.inl (by rw [unhide hC1]; exact List.mem_of_getElem? hs)))
        have htb : 0 ≤ t ∧ t < (NC : Int) := by
          have := nxl_bd (unhide HOF) (unhide HI) (List.mem_of_getElem? ht)
          rw [unhide hNC] at this
          exact this
        obtain ⟨J, hJ⟩ : ∃ J, Hid (ixS (t, (bh : Int)) = J) := ⟨_, rfl⟩
        rw [unhide hJ] at hix
        obtain ⟨nb, no, ncap2, en2, lnb, hcell⟩ := (Rn.of_ro (unhide HG3).1).at ht
        have en3 : na = some ⟨nb, no, none⟩ := by injection en2
        subst en3
        have hbg : nb ≠ g := fun e => by
          have h1 := (unhide HG3).2.2 nb rfl
          have h2 := (unhide TW2).lt
          omega
        have cN := ((unhide hF).cell (a := ⟨nb, no + j, none⟩) lnb (fun e => hbg e)).trans hcell
        have lN : nb < wr.heap.size := Nat.lt_of_lt_of_le lnb (unhide hF).size
        have q1 : IntKind.i64.wrap (t * 65) = t * 65 := by rw [IntKind.wrap_i64]; have := unhide HNm; omega
        have q3 : IntKind.i64.wrap (t * 65 + (bh : Int)) = (J : Int) := by
          rw [IntKind.wrap_i64, ← unhide hJ]; unfold ixS; simp only; have := unhide HNm; omega
        have q4 : (0 : Int) ≤ (J : Int) := by omega
        have q5 : (J : Int) < (N : Int) := by omega
        have j0 : (0 : Int) ≤ (j : Int) := by omega
        have j1 : (j : Int) < (NN : Int) := by omega
        have jb : j < 2 := by have := unhide HNN2; omega
        have hJ2 : Hid (J < ((C1.take j).foldl mkT (L, false)).1.length) := by unfold Hid; rw [(unhide hT).1.len]; omega
        obtain ⟨bo, hbo⟩ : ∃ bo, Hid (((C1.take j).foldl mkT (L, false)).1.getD J false = bo) := ⟨_, rfl⟩
        have cJ : wr.cell? ⟨g, J, none⟩ = some (.bool bo) := (unhide hT).1.at (by rw [← unhide hbo]; exact getD_at (unhide hJ2))
        have fz := (unhide hT).1.free J
        have lg : g < wr.heap.size := (unhide hT).1.lt
        have T4 := hide ((unhide hT).1.put (i := J) (by omega))
        have HF4 : Hid (Fr (fun k => k = g) W3 (wr.setCell ⟨g, J, none⟩ (.bool true))) := (unhide hF).setCell ⟨g, J, none⟩ (.inr rfl) _
        have HT4 : Hid (TB (wr.setCell ⟨g, J, none⟩ (.bool true)) g N ((C1.take (j + 1)).foldl mkT (L, false)).1 ∧ ((C1.take (j + 1)).foldl mkT (L, false)).2 = (b || !bo)) := by
          unfold Hid; rw [hst]
          refine ⟨?_, ?_⟩
          · show TB _ g N (((C1.take j).foldl mkT (L, false)).1.set (ixS _) true)
            rw [unhide hJ]; exact unhide T4
          · show (((C1.take j).foldl mkT (L, false)).2 || !(((C1.take j).foldl mkT (L, false)).1.getD (ixS _) false)) = _
            rw [unhide hJ, unhide hbo, (unhide hT).2]
        clear T4 hst hs ht hix htb hcell lnb
        cases b with
        | true =>
          go_wp2_with fail
          go_roundg (gk - 1)
          case measure => have := unhide hj; omega
          case rel => exact ⟨j + 1, _, by have := unhide hj; unfold Hid; omega, by go_num, rfl, by simpa using HT4, HF4⟩
        | false =>
          go_wp2_with fail
          go_roundg (gk - 1)
          case measure => have := unhide hj; omega
          case rel => exact ⟨j + 1, _, by have := unhide hj; unfold Hid; omega, by go_num, rfl, by simpa using HT4, HF4⟩
      · have hjn : NN = j := by have := unhide hj; omega
        subst hjn
        have HPS : Hid ((C1.take NN).foldl mkT (L, false) = C1.foldl mkT (L, false)) := by unfold Hid; rw [List.take_of_length_le (by rw [unhide hC1l]; exact Nat.le_refl _)]
        obtain ⟨PH, HPH⟩ : ∃ PH : Nat → List Bool × Bool, Hid (PH = fun j => (((f.hs.take j).filter (fun h => hol h p)).map tgt).foldl mkT (C1.foldl mkT (L, false))) := ⟨_, rfl⟩
        have HP0 : Hid (PH 0 = C1.foldl mkT (L, false)) := by unfold Hid; rw [unhide HPH]; rfl
        have HRE : Hid (PH NH = R) := by
          unfold Hid; rw [unhide HPH, ← unhide hR, unhide HNX, List.foldl_append, unhide hC1]
          simp only
          rw [List.take_of_length_le (by rw [unhide hNH]; exact Nat.le_refl _)]
        have HB5 : Hid (wr.cell? ⟨w.heap.size, 3, none⟩ = some (.slice (some ⟨cb, co, none⟩) NC cc) ∧ wr.cell? ⟨w.heap.size, 4, none⟩ = some hv ∧ True) := ⟨((unhide hF).cell (a := ⟨w.heap.size, 3, none⟩) (unhide HLW3) (fun e => unhide HNG e)).trans (unhide HB3).1, ((unhide hF).cell (a := ⟨w.heap.size, 4, none⟩) (unhide HLW3) (fun e => unhide HNG e)).trans (unhide HB3).2, trivial⟩
        have HLW : Hid (w.heap.size < wr.heap.size) := Nat.lt_of_lt_of_le (unhide HLW3) (unhide hF).size
        have HFW : Hid (Fr (fun k => k = g) w wr) := (unhide FW3).trans (unhide hF)
        have HB0 : Hid (Below w0.heap.size w0 wr) := (unhide HB0').trans ((unhide HFW).below (unhide HB0').size (fun k hk e => by have := unhide HG; omega))
        have HX5 := HX0
        have HGW := HG
        have HST : Hid (TB wr g N (PH 0).1 ∧ (PH 0).2 = b) := by unfold Hid; rw [unhide HP0, ← unhide HPS]; exact unhide hT
        clear hT hF hj
        revert HB5 HLW HFW HB0 HST
        generalize wr = WW
        intro HB5 HLW HFW HB0 HST
        -- the handlers
        go_wp2_with fail
        go_loopg [12, 17] NH (fun gg t12 t17 wr => ∃ (j : Nat) (b : Bool), Hid (j + gg = NH) ∧ t17 = .int .i64 (j : Int) ∧ t12 = .bool b ∧ Hid (TB wr g N (PH j).1 ∧ (PH j).2 = b) ∧ Hid (Fr (fun k => k = g) WW wr))
        case atStart => exact ⟨0, _, by unfold Hid; omega, rfl, rfl, HST, Fr.refl _ _⟩
        case round =>
          obtain ⟨j, b, hj, rfl, rfl, hT, hF⟩ := hrel
          have hsz5 := (unhide hF).size
          have b3 := ((unhide hF).cell (a := ⟨w.heap.size, 3, none⟩) (unhide HLW) (fun e => unhide HNG e)).trans (unhide HB5).1
          have b4 := ((unhide hF).cell (a := ⟨w.heap.size, 4, none⟩) (unhide HLW) (fun e => unhide HNG e)).trans (unhide HB5).2.1
          have lw : w.heap.size < wr.heap.size := Nat.lt_of_lt_of_le (unhide HLW) hsz5
          clear hsz5
          by_cases hlt : j < NH
          · obtain ⟨k, hk⟩ : ∃ k, f.hs[j]? = some k := ⟨_, List.getElem?_eq_getElem (by rw [unhide hNH]; exact hlt)⟩
            obtain ⟨hb, ho, hcap, ehv, _, _, lh, hc⟩ := Rx.elem zH (unhide HX5).2.2.2.2 hk
            have ehv' : hv = .slice (some ⟨hb, ho, none⟩) NH hcap := by rw [← unhide hNH]; exact ehv
            have hbg : hb ≠ g := fun e => by rw [e] at lh; have := unhide HGW; omega
            have cc := fun o v (hv : (enH k)[o]? = some v) => ((unhide hF).cell (a := ⟨hb, ho + j * 4 + o, none⟩) (Nat.lt_of_lt_of_le lh (unhide HB0).size) (fun e => hbg e)).trans (((unhide HB0).cell (p := ⟨hb, ho + j * 4 + o, none⟩) lh).trans (hc o v hv))
            have k0 := cc 0 _ rfl
            have k1 := cc 1 _ rfl
            have k2 := cc 2 _ rfl
            have k3 := cc 3 _ rfl
            rw [Nat.add_zero] at k0
            have lhr : hb < wr.heap.size := Nat.lt_of_lt_of_le lh (Nat.le_trans (unhide HB0).size (unhide hF).size)
            rw [ehv'] at b4
            have j0 : (0 : Int) ≤ (j : Int) := by omega
            have j1 : (j : Int) < (NH : Int) := by omega
            have jb : j < 1000 := by have := (unhide HNm).2.2.2; omega
            have HH := hide (fun w => holds_any w k (p : Int))
            have HK := hide hk
            have hhd := (unhide HOF).hd k (List.mem_of_getElem? hk)
            clear hc cc hk ehv ehv'
            cases hh : hol k (p : Int)
            · rw [hh] at HH
              have HP : Hid (PH (j + 1) = PH j) := by unfold Hid; rw [unhide HPH]; exact ph_skip (unhide HK) hh
              clear hh
              go_wp2_with fail
              refine (unhide HH _).mono ?_
              rintro e w2 ⟨rfl, hb2⟩
              have HT2 : Hid (TB w2 g N (PH (j + 1)).1 ∧ (PH (j + 1)).2 = b) := by
                unfold Hid; rw [unhide HP]
                exact ⟨(unhide hT).1.fr (S := fun _ => False) (Fr.of_below hb2) (fun e => e), (unhide hT).2⟩
              have HF2 : Hid (Fr (fun k => k = g) WW w2) := (unhide hF).trans (Fr.of_below hb2)
              clear hb2
              go_wp2_with fail
              go_roundg (gk - 1)
              case measure => have := unhide hj; omega
              case rel => exact ⟨j + 1, _, by have := unhide hj; unfold Hid; omega, by go_num, rfl, HT2, HF2⟩
            · rw [hh] at HH
              have HIX := hide (unhide HIN (tgt k) (by unfold conS; exact List.mem_append.2 (.inr (List.mem_map.2 ⟨k, List.mem_filter.2 ⟨List.mem_of_getElem? (unhide HK), hh⟩, rfl⟩))))
              have HP : Hid (PH (j + 1) = mkT (PH j) (tgt k)) := by unfold Hid; rw [unhide HPH]; exact ph_step (unhide HK) hh
              obtain ⟨J, hJ⟩ : ∃ J, Hid (ixS (tgt k) = J) := ⟨_, rfl⟩
              rw [unhide hJ] at HIX
              have q1 : IntKind.i64.wrap (k.target * 65) = k.target * 65 := by rw [IntKind.wrap_i64]; have := unhide HNm; omega
              have q2 : IntKind.i64.wrap (k.target * 65 + k.height) = k.target * 65 + k.height := by rw [IntKind.wrap_i64]; have := unhide HNm; omega
              have q3 : IntKind.i64.wrap (k.target * 65 + k.height + 1) = (J : Int) := by
                rw [IntKind.wrap_i64, ← unhide hJ]; unfold ixS tgt; simp only; have := unhide HNm; omega
              have q4 : (0 : Int) ≤ (J : Int) := by omega
              have q5 : (J : Int) < (N : Int) := by have := unhide HIX; omega
              obtain ⟨kf, kt, kg, kh⟩ := k
              simp only at q1 q2 q3 k0 k1 k2 k3
              clear hh hhd
              go_wp2_with fail
              refine (unhide HH _).mono ?_
              rintro e w2 ⟨rfl, hb2⟩
              have f2 : Fr (fun _ => False) wr w2 := Fr.of_below hb2
              have b4 := (f2.cell (a := ⟨w.heap.size, 4, none⟩) lw (fun e => e)).trans b4
              have b3 := (f2.cell (a := ⟨w.heap.size, 3, none⟩) lw (fun e => e)).trans b3
              have k2 := (f2.cell (a := ⟨hb, ho + j * 4 + 2, none⟩) lhr (fun e => e)).trans k2
              have k3 := (f2.cell (a := ⟨hb, ho + j * 4 + 3, none⟩) lhr (fun e => e)).trans k3
              have lw2 := Nat.lt_of_lt_of_le lw f2.size
              have lh2 := Nat.lt_of_lt_of_le lhr f2.size
              have T2 := hide ((unhide hT).1.fr f2 (fun e => e))
              have HF2 : Hid (Fr (fun k => k = g) WW w2) := (unhide hF).trans (Fr.of_below hb2)
              clear hb2 f2 k0 k1
              go_wp2_with fail
              go_quiet (fail)
              obtain ⟨w3, hw3⟩ : ∃ x, Hid (w2.drewN nq = x) := ⟨_, rfl⟩
              have T3 : Hid (TB w3 g N (PH j).1) := by unfold Hid; rw [← unhide hw3]; exact (unhide T2).drewN nq
              have HF3 : Hid (Fr (fun k => k = g) WW w3) := by unfold Hid; rw [← unhide hw3]; exact (unhide HF2).trans (Fr.drewN nq)
              rw [unhide hw3]
              clear b3 b4 k2 k3
              have hJ2 : Hid (J < (PH j).1.length) := by unfold Hid; rw [(unhide T3).len]; have := unhide HIX; omega
              obtain ⟨bo, hbo⟩ : ∃ bo, Hid ((PH j).1.getD J false = bo) := ⟨_, rfl⟩
              have cJ : w3.cell? ⟨g, J, none⟩ = some (.bool bo) := (unhide T3).at (by rw [← unhide hbo]; exact getD_at (unhide hJ2))
              have fz := (unhide T3).free J
              have lg : g < w3.heap.size := (unhide T3).lt
              have T4 := hide ((unhide T3).put (i := J) (by have := unhide HIX; omega))
              have HF4 : Hid (Fr (fun k => k = g) WW (w3.setCell ⟨g, J, none⟩ (.bool true))) := (unhide HF3).setCell ⟨g, J, none⟩ (.inr rfl) _
              have HT4 : Hid (TB (w3.setCell ⟨g, J, none⟩ (.bool true)) g N (PH (j + 1)).1 ∧ (PH (j + 1)).2 = (b || !bo)) := by
                unfold Hid; rw [unhide HP]
                refine ⟨?_, ?_⟩
                · show TB _ g N ((PH j).1.set (ixS _) true)
                  rw [unhide hJ]; exact unhide T4
                · show ((PH j).2 || !((PH j).1.getD (ixS _) false)) = _
                  rw [unhide hJ, unhide hbo, (unhide hT).2]
              clear T4
              cases b with
              | true =>
                go_wp2_with fail
                go_roundg (gk - 1)
                case measure => have := unhide hj; omega
                case rel => exact ⟨j + 1, _, by have := unhide hj; unfold Hid; omega, by go_num, rfl, by simpa using HT4, HF4⟩
              | false =>
                go_wp2_with fail
                go_roundg (gk - 1)
                case measure => have := unhide hj; omega
                case rel => exact ⟨j + 1, _, by have := unhide hj; unfold Hid; omega, by go_num, rfl, by simpa using HT4, HF4⟩
          · have hjn : NH = j := by have := unhide hj; omega
            subst hjn
            have HE : Hid (TB wr g N R.1 ∧ R.2 = b) := by have := unhide hT; unfold Hid; rw [← unhide HRE]; exact this
            have HFE : Hid (Fr (fun k => k = g) w wr) := (unhide HFW).trans (unhide hF)
            rw [unhide hhvv] at b4
            go_wp2_with fail
            go_ret
            exact ⟨by rw [(unhide HE).2]; rfl, (unhide HE).1, unhide HFE⟩
  · have hfx : ¬ tkv ≤ h ∨ ¬ h - tkv + ptv < 65 := by omega
    have HNX : Hid (conS f op a p (h : Int) = (f.hs.filter (fun h => hol h p)).map tgt) := by
      unfold Hid conS nx
      rw [if_pos (by rw [unhide htk, unhide hpt]; omega)]
      rfl
    obtain ⟨PH, HPH⟩ : ∃ PH : Nat → List Bool × Bool, Hid (PH = fun j => (((f.hs.take j).filter (fun h => hol h p)).map tgt).foldl mkT (L, false)) := ⟨_, rfl⟩
    have HP0 : Hid (PH 0 = (L, false)) := by unfold Hid; rw [unhide HPH]; rfl
    have HRE : Hid (PH NH = R) := by
      unfold Hid; rw [unhide HPH, ← unhide hR, unhide HNX]
      simp only
      rw [List.take_of_length_le (by rw [unhide hNH]; exact Nat.le_refl _)]
    have HB5 : Hid (W2.cell? ⟨w.heap.size, 3, none⟩ = some (.slice (some ⟨cb, co, none⟩) NC cc) ∧ W2.cell? ⟨w.heap.size, 4, none⟩ = some hv ∧ True) := ⟨y3, y4, trivial⟩
    have HLW := HYL
    have HFW := FW2
    have HB0 := HB02
    have HX5 := HX0
    have HGW := HG
    have HST : Hid (TB W2 g N (PH 0).1 ∧ (PH 0).2 = false) := by unfold Hid; rw [unhide HP0]; exact ⟨unhide TW2, rfl⟩
    have b := false
    rcases hfx with hfx | hfx
    · have e1 : ¬ (tkv : Int) ≤ (h : Int) := by omega
      clear hfit hfx
      -- the handlers
      go_wp2_with fail
      go_loopg [12, 17] NH (fun gg t12 t17 wr => ∃ (j : Nat) (b : Bool), Hid (j + gg = NH) ∧ t17 = .int .i64 (j : Int) ∧ t12 = .bool b ∧ Hid (TB wr g N (PH j).1 ∧ (PH j).2 = b) ∧ Hid (Fr (fun k => k = g) W2 wr))
      case atStart => exact ⟨0, _, by unfold Hid; omega, rfl, rfl, HST, Fr.refl _ _⟩
      case round =>
        obtain ⟨j, b, hj, rfl, rfl, hT, hF⟩ := hrel
        have hsz5 := (unhide hF).size
        have b3 := ((unhide hF).cell (a := ⟨w.heap.size, 3, none⟩) (unhide HLW) (fun e => unhide HNG e)).trans (unhide HB5).1
        have b4 := ((unhide hF).cell (a := ⟨w.heap.size, 4, none⟩) (unhide HLW) (fun e => unhide HNG e)).trans (unhide HB5).2.1
        have lw : w.heap.size < wr.heap.size := Nat.lt_of_lt_of_le (unhide HLW) hsz5
        clear hsz5
        by_cases hlt : j < NH
        · obtain ⟨k, hk⟩ : ∃ k, f.hs[j]? = some k := ⟨_, List.getElem?_eq_getElem (by rw [unhide hNH]; exact hlt)⟩
          obtain ⟨hb, ho, hcap, ehv, _, _, lh, hc⟩ := Rx.elem zH (unhide HX5).2.2.2.2 hk
          have ehv' : hv = .slice (some ⟨hb, ho, none⟩) NH hcap := by rw [← unhide hNH]; exact ehv
          have hbg : hb ≠ g := fun e => by rw [e] at lh; have := unhide HGW; omega
          have cc := fun o v (hv : (enH k)[o]? = some v) => ((unhide hF).cell (a := ⟨hb, ho + j * 4 + o, none⟩) (Nat.lt_of_lt_of_le lh (unhide HB0).size) (fun e => hbg e)).trans (((unhide HB0).cell (p := ⟨hb, ho + j * 4 + o, none⟩) lh).trans (hc o v hv))
          have k0 := cc 0 _ rfl
          have k1 := cc 1 _ rfl
          have k2 := cc 2 _ rfl
          have k3 := cc 3 _ rfl
          rw [Nat.add_zero] at k0
          have lhr : hb < wr.heap.size := Nat.lt_of_lt_of_le lh (Nat.le_trans (unhide HB0).size (unhide hF).size)
          rw [ehv'] at b4
          have j0 : (0 : Int) ≤ (j : Int) := by omega
          have j1 : (j : Int) < (NH : Int) := by omega
          have jb : j < 1000 := by have := (unhide HNm).2.2.2; omega
          have HH := hide (fun w => holds_any w k (p : Int))
          have HK := hide hk
          have hhd := (unhide HOF).hd k (List.mem_of_getElem? hk)
          clear hc cc hk ehv ehv'
          cases hh : hol k (p : Int)
          · rw [hh] at HH
            have HP : Hid (PH (j + 1) = PH j) := by unfold Hid; rw [unhide HPH]; exact ph_skip (unhide HK) hh
            clear hh
            go_wp2_with fail
            refine (unhide HH _).mono ?_
            rintro e w2 ⟨rfl, hb2⟩
            have HT2 : Hid (TB w2 g N (PH (j + 1)).1 ∧ (PH (j + 1)).2 = b) := by
              unfold Hid; rw [unhide HP]
              exact ⟨(unhide hT).1.fr (S := fun _ => False) (Fr.of_below hb2) (fun e => e), (unhide hT).2⟩
            have HF2 : Hid (Fr (fun k => k = g) W2 w2) := (unhide hF).trans (Fr.of_below hb2)
            clear hb2
            go_wp2_with fail
            go_roundg (gk - 1)
            case measure => have := unhide hj; omega
            case rel => exact ⟨j + 1, _, by have := unhide hj; unfold Hid; omega, by go_num, rfl, HT2, HF2⟩
          · rw [hh] at HH
            have HIX := hide (unhide HIN (tgt k) (by unfold conS; exact List.mem_append.2 (.inr (List.mem_map.2 ⟨k, List.mem_filter.2 ⟨List.mem_of_getElem? (unhide HK), hh⟩, rfl⟩))))
            have HP : Hid (PH (j + 1) = mkT (PH j) (tgt k)) := by unfold Hid; rw [unhide HPH]; exact ph_step (unhide HK) hh
            obtain ⟨J, hJ⟩ : ∃ J, Hid (ixS (tgt k) = J) := ⟨_, rfl⟩
            rw [unhide hJ] at HIX
            have q1 : IntKind.i64.wrap (k.target * 65) = k.target * 65 := by rw [IntKind.wrap_i64]; have := unhide HNm; omega
            have q2 : IntKind.i64.wrap (k.target * 65 + k.height) = k.target * 65 + k.height := by rw [IntKind.wrap_i64]; have := unhide HNm; omega
            have q3 : IntKind.i64.wrap (k.target * 65 + k.height + 1) = (J : Int) := by
              rw [IntKind.wrap_i64, ← unhide hJ]; unfold ixS tgt; simp only; have := unhide HNm; omega
            have q4 : (0 : Int) ≤ (J : Int) := by omega
            have q5 : (J : Int) < (N : Int) := by have := unhide HIX; omega
            obtain ⟨kf, kt, kg, kh⟩ := k
            simp only at q1 q2 q3 k0 k1 k2 k3
            clear hh hhd
            go_wp2_with fail
            refine (unhide HH _).mono ?_
            rintro e w2 ⟨rfl, hb2⟩
            have f2 : Fr (fun _ => False) wr w2 := Fr.of_below hb2
            have b4 := (f2.cell (a := ⟨w.heap.size, 4, none⟩) lw (fun e => e)).trans b4
            have b3 := (f2.cell (a := ⟨w.heap.size, 3, none⟩) lw (fun e => e)).trans b3
            have k2 := (f2.cell (a := ⟨hb, ho + j * 4 + 2, none⟩) lhr (fun e => e)).trans k2
            have k3 := (f2.cell (a := ⟨hb, ho + j * 4 + 3, none⟩) lhr (fun e => e)).trans k3
            have lw2 := Nat.lt_of_lt_of_le lw f2.size
            have lh2 := Nat.lt_of_lt_of_le lhr f2.size
            have T2 := hide ((unhide hT).1.fr f2 (fun e => e))
            have HF2 : Hid (Fr (fun k => k = g) W2 w2) := (unhide hF).trans (Fr.of_below hb2)
            clear hb2 f2 k0 k1
            go_wp2_with fail
            go_quiet (fail)
            obtain ⟨w3, hw3⟩ : ∃ x, Hid (w2.drewN nq = x) := ⟨_, rfl⟩
            have T3 : Hid (TB w3 g N (PH j).1) := by unfold Hid; rw [← unhide hw3]; exact (unhide T2).drewN nq
            have HF3 : Hid (Fr (fun k => k = g) W2 w3) := by unfold Hid; rw [← unhide hw3]; exact (unhide HF2).trans (Fr.drewN nq)
            rw [unhide hw3]
            clear b3 b4 k2 k3
            have hJ2 : Hid (J < (PH j).1.length) := by unfold Hid; rw [(unhide T3).len]; have := unhide HIX; omega
            obtain ⟨bo, hbo⟩ : ∃ bo, Hid ((PH j).1.getD J false = bo) := ⟨_, rfl⟩
            have cJ : w3.cell? ⟨g, J, none⟩ = some (.bool bo) := (unhide T3).at (by rw [← unhide hbo]; exact getD_at (unhide hJ2))
            have fz := (unhide T3).free J
            have lg : g < w3.heap.size := (unhide T3).lt
            have T4 := hide ((unhide T3).put (i := J) (by have := unhide HIX; omega))
            have HF4 : Hid (Fr (fun k => k = g) W2 (w3.setCell ⟨g, J, none⟩ (.bool true))) := (unhide HF3).setCell ⟨g, J, none⟩ (.inr rfl) _
            have HT4 : Hid (TB (w3.setCell ⟨g, J, none⟩ (.bool true)) g N (PH (j + 1)).1 ∧ (PH (j + 1)).2 = (b || !bo)) := by
              unfold Hid; rw [unhide HP]
              refine ⟨?_, ?_⟩
              · show TB _ g N ((PH j).1.set (ixS _) true)
                rw [unhide hJ]; exact unhide T4
              · show ((PH j).2 || !((PH j).1.getD (ixS _) false)) = _
                rw [unhide hJ, unhide hbo, (unhide hT).2]
            clear T4
            cases b with
            | true =>
              go_wp2_with fail
              go_roundg (gk - 1)
              case measure => have := unhide hj; omega
              case rel => exact ⟨j + 1, _, by have := unhide hj; unfold Hid; omega, by go_num, rfl, by simpa using HT4, HF4⟩
            | false =>
              go_wp2_with fail
              go_roundg (gk - 1)
              case measure => have := unhide hj; omega
              case rel => exact ⟨j + 1, _, by have := unhide hj; unfold Hid; omega, by go_num, rfl, by simpa using HT4, HF4⟩
        · have hjn : NH = j := by have := unhide hj; omega
          subst hjn
          have HE : Hid (TB wr g N R.1 ∧ R.2 = b) := by have := unhide hT; unfold Hid; rw [← unhide HRE]; exact this
          have HFE : Hid (Fr (fun k => k = g) w wr) := (unhide HFW).trans (unhide hF)
          rw [unhide hhvv] at b4
          go_wp2_with fail
          go_ret
          exact ⟨by rw [(unhide HE).2]; rfl, (unhide HE).1, unhide HFE⟩
    · by_cases e0 : tkv ≤ h
      · have e1 : (tkv : Int) ≤ (h : Int) := by omega
        have e3 : ¬ (h : Int) - (tkv : Int) + (ptv : Int) < 65 := by omega
        clear hfit hfx e0
        -- the handlers
        go_wp2_with fail
        go_loopg [12, 17] NH (fun gg t12 t17 wr => ∃ (j : Nat) (b : Bool), Hid (j + gg = NH) ∧ t17 = .int .i64 (j : Int) ∧ t12 = .bool b ∧ Hid (TB wr g N (PH j).1 ∧ (PH j).2 = b) ∧ Hid (Fr (fun k => k = g) W2 wr))
        case atStart => exact ⟨0, _, by unfold Hid; omega, rfl, rfl, HST, Fr.refl _ _⟩
        case round =>
          obtain ⟨j, b, hj, rfl, rfl, hT, hF⟩ := hrel
          have hsz5 := (unhide hF).size
          have b3 := ((unhide hF).cell (a := ⟨w.heap.size, 3, none⟩) (unhide HLW) (fun e => unhide HNG e)).trans (unhide HB5).1
          have b4 := ((unhide hF).cell (a := ⟨w.heap.size, 4, none⟩) (unhide HLW) (fun e => unhide HNG e)).trans (unhide HB5).2.1
          have lw : w.heap.size < wr.heap.size := Nat.lt_of_lt_of_le (unhide HLW) hsz5
          clear hsz5
          by_cases hlt : j < NH
          · obtain ⟨k, hk⟩ : ∃ k, f.hs[j]? = some k := ⟨_, List.getElem?_eq_getElem (by rw [unhide hNH]; exact hlt)⟩
            obtain ⟨hb, ho, hcap, ehv, _, _, lh, hc⟩ := Rx.elem zH (unhide HX5).2.2.2.2 hk
            have ehv' : hv = .slice (some ⟨hb, ho, none⟩) NH hcap := by rw [← unhide hNH]; exact ehv
            have hbg : hb ≠ g := fun e => by rw [e] at lh; have := unhide HGW; omega
            have cc := fun o v (hv : (enH k)[o]? = some v) => ((unhide hF).cell (a := ⟨hb, ho + j * 4 + o, none⟩) (Nat.lt_of_lt_of_le lh (unhide HB0).size) (fun e => hbg e)).trans (((unhide HB0).cell (p := ⟨hb, ho + j * 4 + o, none⟩) lh).trans (hc o v hv))
            have k0 := cc 0 _ rfl
            have k1 := cc 1 _ rfl
            have k2 := cc 2 _ rfl
            have k3 := cc 3 _ rfl
            rw [Nat.add_zero] at k0
            have lhr : hb < wr.heap.size := Nat.lt_of_lt_of_le lh (Nat.le_trans (unhide HB0).size (unhide hF).size)
            rw [ehv'] at b4
            have j0 : (0 : Int) ≤ (j : Int) := by omega
            have j1 : (j : Int) < (NH : Int) := by omega
            have jb : j < 1000 := by have := (unhide HNm).2.2.2; omega
            have HH := hide (fun w => holds_any w k (p : Int))
            have HK := hide hk
            have hhd := (unhide HOF).hd k (List.mem_of_getElem? hk)
            clear hc cc hk ehv ehv'
            cases hh : hol k (p : Int)
            · rw [hh] at HH
              have HP : Hid (PH (j + 1) = PH j) := by unfold Hid; rw [unhide HPH]; exact ph_skip (unhide HK) hh
              clear hh
              go_wp2_with fail
              refine (unhide HH _).mono ?_
              rintro e w2 ⟨rfl, hb2⟩
              have HT2 : Hid (TB w2 g N (PH (j + 1)).1 ∧ (PH (j + 1)).2 = b) := by
                unfold Hid; rw [unhide HP]
                exact ⟨(unhide hT).1.fr (S := fun _ => False) (Fr.of_below hb2) (fun e => e), (unhide hT).2⟩
              have HF2 : Hid (Fr (fun k => k = g) W2 w2) := (unhide hF).trans (Fr.of_below hb2)
              clear hb2
              go_wp2_with fail
              go_roundg (gk - 1)
              case measure => have := unhide hj; omega
              case rel => exact ⟨j + 1, _, by have := unhide hj; unfold Hid; omega, by go_num, rfl, HT2, HF2⟩
            · rw [hh] at HH
              have HIX := hide (unhide HIN (tgt k) (by unfold conS; exact List.mem_append.2 (.inr (List.mem_map.2 ⟨k, List.mem_filter.2 ⟨List.mem_of_getElem? (unhide HK), hh⟩, rfl⟩))))
              have HP : Hid (PH (j + 1) = mkT (PH j) (tgt k)) := by unfold Hid; rw [unhide HPH]; exact ph_step (unhide HK) hh
              obtain ⟨J, hJ⟩ : ∃ J, Hid (ixS (tgt k) = J) := ⟨_, rfl⟩
              rw [unhide hJ] at HIX
              have q1 : IntKind.i64.wrap (k.target * 65) = k.target * 65 := by rw [IntKind.wrap_i64]; have := unhide HNm; omega
              have q2 : IntKind.i64.wrap (k.target * 65 + k.height) = k.target * 65 + k.height := by rw [IntKind.wrap_i64]; have := unhide HNm; omega
              have q3 : IntKind.i64.wrap (k.target * 65 + k.height + 1) = (J : Int) := by
                rw [IntKind.wrap_i64, ← unhide hJ]; unfold ixS tgt; simp only; have := unhide HNm; omega
              have q4 : (0 : Int) ≤ (J : Int) := by omega
              have q5 : (J : Int) < (N : Int) := by have := unhide HIX; omega
              obtain ⟨kf, kt, kg, kh⟩ := k
              simp only at q1 q2 q3 k0 k1 k2 k3
              clear hh hhd
              go_wp2_with fail
              refine (unhide HH _).mono ?_
              rintro e w2 ⟨rfl, hb2⟩
              have f2 : Fr (fun _ => False) wr w2 := Fr.of_below hb2
              have b4 := (f2.cell (a := ⟨w.heap.size, 4, none⟩) lw (fun e => e)).trans b4
              have b3 := (f2.cell (a := ⟨w.heap.size, 3, none⟩) lw (fun e => e)).trans b3
              have k2 := (f2.cell (a := ⟨hb, ho + j * 4 + 2, none⟩) lhr (fun e => e)).trans k2
              have k3 := (f2.cell (a := ⟨hb, ho + j * 4 + 3, none⟩) lhr (fun e => e)).trans k3
              have lw2 := Nat.lt_of_lt_of_le lw f2.size
              have lh2 := Nat.lt_of_lt_of_le lhr f2.size
              have T2 := hide ((unhide hT).1.fr f2 (fun e => e))
              have HF2 : Hid (Fr (fun k => k = g) W2 w2) := (unhide hF).trans (Fr.of_below hb2)
              clear hb2 f2 k0 k1
              go_wp2_with fail
              go_quiet (fail)
              obtain ⟨w3, hw3⟩ : ∃ x, Hid (w2.drewN nq = x) := ⟨_, rfl⟩
              have T3 : Hid (TB w3 g N (PH j).1) := by unfold Hid; rw [← unhide hw3]; exact (unhide T2).drewN nq
              have HF3 : Hid (Fr (fun k => k = g) W2 w3) := by unfold Hid; rw [← unhide hw3]; exact (unhide HF2).trans (Fr.drewN nq)
              rw [unhide hw3]
              clear b3 b4 k2 k3
              have hJ2 : Hid (J < (PH j).1.length) := by unfold Hid; rw [(unhide T3).len]; have := unhide HIX; omega
              obtain ⟨bo, hbo⟩ : ∃ bo, Hid ((PH j).1.getD J false = bo) := ⟨_, rfl⟩
              have cJ : w3.cell? ⟨g, J, none⟩ = some (.bool bo) := (unhide T3).at (by rw [← unhide hbo]; exact getD_at (unhide hJ2))
              have fz := (unhide T3).free J
              have lg : g < w3.heap.size := (unhide T3).lt
              have T4 := hide ((unhide T3).put (i := J) (by have := unhide HIX; omega))
              have HF4 : Hid (Fr (fun k => k = g) W2 (w3.setCell ⟨g, J, none⟩ (.bool true))) := (unhide HF3).setCell ⟨g, J, none⟩ (.inr rfl) _
              have HT4 : Hid (TB (w3.setCell ⟨g, J, none⟩ (.bool true)) g N (PH (j + 1)).1 ∧ (PH (j + 1)).2 = (b || !bo)) := by
                unfold Hid; rw [unhide HP]
                refine ⟨?_, ?_⟩
                · show TB _ g N ((PH j).1.set (ixS _) true)
                  rw [unhide hJ]; exact unhide T4
                · show ((PH j).2 || !((PH j).1.getD (ixS _) false)) = _
                  rw [unhide hJ, unhide hbo, (unhide hT).2]
              clear T4
              cases b with
              | true =>
                go_wp2_with fail
                go_roundg (gk - 1)
                case measure => have := unhide hj; omega
                case rel => exact ⟨j + 1, _, by have := unhide hj; unfold Hid; omega, by go_num, rfl, by simpa using HT4, HF4⟩
              | false =>
                go_wp2_with fail
                go_roundg (gk - 1)
                case measure => have := unhide hj; omega
                case rel => exact ⟨j + 1, _, by have := unhide hj; unfold Hid; omega, by go_num, rfl, by simpa using HT4, HF4⟩
          · have hjn : NH = j := by have := unhide hj; omega
            subst hjn
            have HE : Hid (TB wr g N R.1 ∧ R.2 = b) := by have := unhide hT; unfold Hid; rw [← unhide HRE]; exact this
            have HFE : Hid (Fr (fun k => k = g) w wr) := (unhide HFW).trans (unhide hF)
            rw [unhide hhvv] at b4
            go_wp2_with fail
            go_ret
            exact ⟨by rw [(unhide HE).2]; rfl, (unhide HE).1, unhide HFE⟩
      · have e1 : ¬ (tkv : Int) ≤ (h : Int) := by omega
        clear hfit hfx e0
        -- the handlers
        go_wp2_with fail
        go_loopg [12, 17] NH (fun gg t12 t17 wr => ∃ (j : Nat) (b : Bool), Hid (j + gg = NH) ∧ t17 = .int .i64 (j : Int) ∧ t12 = .bool b ∧ Hid (TB wr g N (PH j).1 ∧ (PH j).2 = b) ∧ Hid (Fr (fun k => k = g) W2 wr))
        case atStart => exact ⟨0, _, by unfold Hid; omega, rfl, rfl, HST, Fr.refl _ _⟩
        case round =>
          obtain ⟨j, b, hj, rfl, rfl, hT, hF⟩ := hrel
          have hsz5 := (unhide hF).size
          have b3 := ((unhide hF).cell (a := ⟨w.heap.size, 3, none⟩) (unhide HLW) (fun e => unhide HNG e)).trans (unhide HB5).1
          have b4 := ((unhide hF).cell (a := ⟨w.heap.size, 4, none⟩) (unhide HLW) (fun e => unhide HNG e)).trans (unhide HB5).2.1
          have lw : w.heap.size < wr.heap.size := Nat.lt_of_lt_of_le (unhide HLW) hsz5
          clear hsz5
          by_cases hlt : j < NH
          · obtain ⟨k, hk⟩ : ∃ k, f.hs[j]? = some k := ⟨_, List.getElem?_eq_getElem (by rw [unhide hNH]; exact hlt)⟩
            obtain ⟨hb, ho, hcap, ehv, _, _, lh, hc⟩ := Rx.elem zH (unhide HX5).2.2.2.2 hk
            have ehv' : hv = .slice (some ⟨hb, ho, none⟩) NH hcap := by rw [← unhide hNH]; exact ehv
            have hbg : hb ≠ g := fun e => by rw [e] at lh; have := unhide HGW; omega
            have cc := fun o v (hv : (enH k)[o]? = some v) => ((unhide hF).cell (a := ⟨hb, ho + j * 4 + o, none⟩) (Nat.lt_of_lt_of_le lh (unhide HB0).size) (fun e => hbg e)).trans (((unhide HB0).cell (p := ⟨hb, ho + j * 4 + o, none⟩) lh).trans (hc o v hv))
            have k0 := cc 0 _ rfl
            have k1 := cc 1 _ rfl
            have k2 := cc 2 _ rfl
            have k3 := cc 3 _ rfl
            rw [Nat.add_zero] at k0
            have lhr : hb < wr.heap.size := Nat.lt_of_lt_of_le lh (Nat.le_trans (unhide HB0).size (unhide hF).size)
            rw [ehv'] at b4
            have j0 : (0 : Int) ≤ (j : Int) := by omega
            have j1 : (j : Int) < (NH : Int) := by omega
            have jb : j < 1000 := by have := (unhide HNm).2.2.2; omega
            have HH := hide (fun w => holds_any w k (p : Int))
            have HK := hide hk
            have hhd := (unhide HOF).hd k (List.mem_of_getElem? hk)
            clear hc cc hk ehv ehv'
            cases hh : hol k (p : Int)
            · rw [hh] at HH
              have HP : Hid (PH (j + 1) = PH j) := by unfold Hid; rw [unhide HPH]; exact ph_skip (unhide HK) hh
              clear hh
              go_wp2_with fail
              refine (unhide HH _).mono ?_
              rintro e w2 ⟨rfl, hb2⟩
              have HT2 : Hid (TB w2 g N (PH (j + 1)).1 ∧ (PH (j + 1)).2 = b) := by
                unfold Hid; rw [unhide HP]
                exact ⟨(unhide hT).1.fr (S := fun _ => False) (Fr.of_below hb2) (fun e => e), (unhide hT).2⟩
              have HF2 : Hid (Fr (fun k => k = g) W2 w2) := (unhide hF).trans (Fr.of_below hb2)
              clear hb2
              go_wp2_with fail
              go_roundg (gk - 1)
              case measure => have := unhide hj; omega
              case rel => exact ⟨j + 1, _, by have := unhide hj; unfold Hid; omega, by go_num, rfl, HT2, HF2⟩
            · rw [hh] at HH
              have HIX := hide (unhide HIN (tgt k) (by unfold conS; exact List.mem_append.2 (.inr (List.mem_map.2 ⟨k, List.mem_filter.2 ⟨List.mem_of_getElem? (unhide HK), hh⟩, rfl⟩))))
              have HP : Hid (PH (j + 1) = mkT (PH j) (tgt k)) := by unfold Hid; rw [unhide HPH]; exact ph_step (unhide HK) hh
              obtain ⟨J, hJ⟩ : ∃ J, Hid (ixS (tgt k) = J) := ⟨_, rfl⟩
              rw [unhide hJ] at HIX
              have q1 : IntKind.i64.wrap (k.target * 65) = k.target * 65 := by rw [IntKind.wrap_i64]; have := unhide HNm; omega
              have q2 : IntKind.i64.wrap (k.target * 65 + k.height) = k.target * 65 + k.height := by rw [IntKind.wrap_i64]; have := unhide HNm; omega
              have q3 : IntKind.i64.wrap (k.target * 65 + k.height + 1) = (J : Int) := by
                rw [IntKind.wrap_i64, ← unhide hJ]; unfold ixS tgt; simp only; have := unhide HNm; omega
              have q4 : (0 : Int) ≤ (J : Int) := by omega
              have q5 : (J : Int) < (N : Int) := by have := unhide HIX; omega
              obtain ⟨kf, kt, kg, kh⟩ := k
              simp only at q1 q2 q3 k0 k1 k2 k3
              clear hh hhd
              go_wp2_with fail
              refine (unhide HH _).mono ?_
              rintro e w2 ⟨rfl, hb2⟩
              have f2 : Fr (fun _ => False) wr w2 := Fr.of_below hb2
              have b4 := (f2.cell (a := ⟨w.heap.size, 4, none⟩) lw (fun e => e)).trans b4
              have b3 := (f2.cell (a := ⟨w.heap.size, 3, none⟩) lw (fun e => e)).trans b3
              have k2 := (f2.cell (a := ⟨hb, ho + j * 4 + 2, none⟩) lhr (fun e => e)).trans k2
              have k3 := (f2.cell (a := ⟨hb, ho + j * 4 + 3, none⟩) lhr (fun e => e)).trans k3
              have lw2 := Nat.lt_of_lt_of_le lw f2.size
              have lh2 := Nat.lt_of_lt_of_le lhr f2.size
              have T2 := hide ((unhide hT).1.fr f2 (fun e => e))
              have HF2 : Hid (Fr (fun k => k = g) W2 w2) := (unhide hF).trans (Fr.of_below hb2)
              clear hb2 f2 k0 k1
              go_wp2_with fail
              go_quiet (fail)
              obtain ⟨w3, hw3⟩ : ∃ x, Hid (w2.drewN nq = x) := ⟨_, rfl⟩
              have T3 : Hid (TB w3 g N (PH j).1) := by unfold Hid; rw [← unhide hw3]; exact (unhide T2).drewN nq
              have HF3 : Hid (Fr (fun k => k = g) W2 w3) := by unfold Hid; rw [← unhide hw3]; exact (unhide HF2).trans (Fr.drewN nq)
              rw [unhide hw3]
              clear b3 b4 k2 k3
              have hJ2 : Hid (J < (PH j).1.length) := by unfold Hid; rw [(unhide T3).len]; have := unhide HIX; omega
              obtain ⟨bo, hbo⟩ : ∃ bo, Hid ((PH j).1.getD J false = bo) := ⟨_, rfl⟩
              have cJ : w3.cell? ⟨g, J, none⟩ = some (.bool bo) := (unhide T3).at (by rw [← unhide hbo]; exact getD_at (unhide hJ2))
              have fz := (unhide T3).free J
              have lg : g < w3.heap.size := (unhide T3).lt
              have T4 := hide ((unhide T3).put (i := J) (by have := unhide HIX; omega))
              have HF4 : Hid (Fr (fun k => k = g) W2 (w3.setCell ⟨g, J, none⟩ (.bool true))) := (unhide HF3).setCell ⟨g, J, none⟩ (.inr rfl) _
              have HT4 : Hid (TB (w3.setCell ⟨g, J, none⟩ (.bool true)) g N (PH (j + 1)).1 ∧ (PH (j + 1)).2 = (b || !bo)) := by
                unfold Hid; rw [unhide HP]
                refine ⟨?_, ?_⟩
                · show TB _ g N ((PH j).1.set (ixS _) true)
                  rw [unhide hJ]; exact unhide T4
                · show ((PH j).2 || !((PH j).1.getD (ixS _) false)) = _
                  rw [unhide hJ, unhide hbo, (unhide hT).2]
              clear T4
              cases b with
              | true =>
                go_wp2_with fail
                go_roundg (gk - 1)
                case measure => have := unhide hj; omega
                case rel => exact ⟨j + 1, _, by have := unhide hj; unfold Hid; omega, by go_num, rfl, by simpa using HT4, HF4⟩
              | false =>
                go_wp2_with fail
                go_roundg (gk - 1)
                case measure => have := unhide hj; omega
                case rel => exact ⟨j + 1, _, by have := unhide hj; unfold Hid; omega, by go_num, rfl, by simpa using HT4, HF4⟩
          · have hjn : NH = j := by have := unhide hj; omega
            subst hjn
            have HE : Hid (TB wr g N R.1 ∧ R.2 = b) := by have := unhide hT; unfold Hid; rw [← unhide HRE]; exact this
            have HFE : Hid (Fr (fun k => k = g) w wr) := (unhide HFW).trans (unhide hF)
            rw [unhide hhvv] at b4
            go_wp2_with fail
            go_ret
            exact ⟨by rw [(unhide HE).2]; rfl, (unhide HE).1, unhide HFE⟩
end Go.Proofs.YtlogmdldjmkkjaaGreatDoor
