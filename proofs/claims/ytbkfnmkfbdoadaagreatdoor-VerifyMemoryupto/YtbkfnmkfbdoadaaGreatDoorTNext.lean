/-
  The document's effect of an instruction, and the places behind it.
-/
import Derived.Test.YtbkfnmkfbdoadaaGreatDoorVFin
import Derived.Deep.RegionHeld3
namespace Go.Proofs.YtbkfnmkfbdoadaaGreatDoor
open Go.RowKit
set_option linter.unusedVariables false
set_option linter.unusedSimpArgs false
def SH : ByteArray := ⟨(([48, 48, 32, 48, 49, 32, 48, 49, 32, 48, 49, 32, 48, 49, 32, 48, 49, 32, 48, 49, 32, 49, 48, 32, 49, 50, 32, 50, 50, 32, 48, 49, 32, 49, 48, 32, 50, 49, 32, 50, 49, 32, 50, 49, 32, 50, 49, 32, 50, 49].append [32, 49, 49, 32, 50, 49, 32, 50, 49, 32, 50, 49, 32, 49, 49, 32, 50, 49, 32, 50, 49, 32, 49, 49, 32, 50, 49, 32, 50, 49, 32, 50, 49, 32, 50, 49, 32, 49, 49, 32, 49, 49, 32, 49, 49, 32, 49, 49, 32, 49]).append ([49, 32, 49, 49, 32, 49, 49, 32, 49, 49, 32, 49, 49, 32, 50, 49, 32, 51, 49, 32, 48, 48, 32, 49, 48, 32, 49, 48, 32, 109, 49, 32, 49, 48, 32, 49, 48, 32, 109, 49, 32, 110, 49, 32, 48, 49, 32, 50, 49, 32].append [51, 48, 32, 50, 48, 32, 49, 49, 32, 49, 49, 32, 50, 48, 32, 49, 49, 32, 49, 48, 32, 49, 49, 32, 49, 48, 32, 48, 49, 32, 109, 48, 32, 48, 48, 32, 48, 49, 32, 50, 48, 32, 49, 49, 32, 49, 48, 32, 50, 49, 32])).toArray⟩
def bS (i : Nat) : Nat := (SH.data.toList.getD i 0).toNat
theorem SH_size : SH.size = 201 := by decide +kernel
theorem SH_at (i : Nat) (h : i < 201) : SH[i]? = some (UInt8.ofNat (bS i)) := by
  have : ∀ i : Fin 201, SH[i.val]? = some (UInt8.ofNat (bS i.val)) := by decide +kernel
  exact this ⟨i, h⟩
theorem bS_lt (i : Nat) : bS i < 256 := by unfold bS; exact UInt8.toNat_lt _
theorem SH_put (k : Nat) (h : k < 67) : bS (3 * k + 1) = 48 + pt k ∧ pt k ≤ 2 := by
  have : ∀ k : Fin 67, bS (3 * k.val + 1) = 48 + pt k.val ∧ pt k.val ≤ 2 := by decide +kernel
  exact this ⟨k, h⟩
theorem SH_take (k : Nat) (h : k < 67) : tk k ≤ 3 ∧ (kd k ≠ 6 → bS (3 * k) = 48 + tk k) ∧ (kd k = 6 → bS (3 * k) = 110 ∧ tk k = 0 ∨ bS (3 * k) = 109 ∧ tk k = 1) := by
  have : ∀ k : Fin 67, tk k.val ≤ 3 ∧ (kd k.val ≠ 6 → bS (3 * k.val) = 48 + tk k.val) ∧ (kd k.val = 6 → bS (3 * k.val) = 110 ∧ tk k.val = 0 ∨ bS (3 * k.val) = 109 ∧ tk k.val = 1) := by decide +kernel
  exact this ⟨k, h⟩

set_option maxRecDepth 100000 in
set_option maxHeartbeats 2000000 in
theorem number_n (w : World) (a : Int) : Calls Tryz.prog 65 #[.int .u8 110, .int .i64 a] w fun e w' => e = .returned (.int .i64 a) ∧ w' = w := by
  go_enter Tryz.func65, Tryz.ntmps65
  go_wp2
  go_ret
  exact ⟨rfl, rfl⟩
set_option maxRecDepth 100000 in
set_option maxHeartbeats 2000000 in
theorem number_m (w : World) (a : Int) (h0 : 0 ≤ a) (h1 : a < 64) : Calls Tryz.prog 65 #[.int .u8 109, .int .i64 a] w fun e w' => e = .returned (.int .i64 (a + 1)) ∧ w' = w := by
  have e : IntKind.i64.wrap (a + 1) = a + 1 := by rw [IntKind.wrap_i64]; omega
  go_enter Tryz.func65, Tryz.ntmps65
  go_wp2
  go_ret
  exact ⟨rfl, rfl⟩
set_option maxRecDepth 100000 in
set_option maxHeartbeats 2000000 in
theorem number_d (w : World) (a : Int) (d : Nat) (h : d ≤ 3) : Calls Tryz.prog 65 #[.int .u8 ((48 + d : Nat) : Int), .int .i64 a] w fun e w' => e = .returned (.int .i64 d) ∧ w' = w := by
  have : d = 0 ∨ d = 1 ∨ d = 2 ∨ d = 3 := by omega
  rcases this with rfl | rfl | rfl | rfl
  all_goals
    go_enter Tryz.func65, Tryz.ntmps65
    go_wp2
    go_ret
    exact ⟨rfl, rfl⟩

def Good (c a : Int) : Prop := c = 110 ∨ (c = 109 ∧ 0 ≤ a ∧ a < 64) ∨ (48 ≤ c ∧ c ≤ 51)
def numb (c a : Int) : Int := if c = 110 then a else if c = 109 then a + 1 else c - 48
theorem number_any (w : World) (c a : Int) (h : Good c a) : Calls Tryz.prog 65 #[.int .u8 c, .int .i64 a] w fun e w' => e = .returned (.int .i64 (numb c a)) ∧ w' = w := by
  unfold numb
  rcases h with rfl | ⟨rfl, h0, h1⟩ | ⟨h0, h1⟩
  · exact number_n w a
  · exact number_m w a h0 h1
  · obtain ⟨d, rfl⟩ : ∃ d : Nat, c = ((48 + d : Nat) : Int) := ⟨(c - 48).toNat, by omega⟩
    have := number_d w a d (by omega)
    rw [if_neg (by omega), if_neg (by omega)]
    have e : (((48 + d : Nat) : Int) - 48) = (d : Int) := by omega
    rw [e]
    exact this

set_option maxRecDepth 100000 in
set_option maxHeartbeats 2000000 in
theorem dEffect_any (w : World) (op a : Int) (ha : I64 a) : Calls Tryz.prog 52 #[.agg #[.int .i64 op, .int .i64 a]] w fun e w' => e = .returned (.tuple #[.int .i64 (tkI op a), .int .i64 (ptI op a), .bool (okB op a)]) ∧ Below w.heap.size w w' := by
  have H1 := hide (fun w => dCheck_any w op a ha)
  clear ha
  cases hok : okB op a
  · have e1 : erN op a = 7 := by simp [erN, hok]
    have e2 : tkI op a = 0 := by simp [tkI, hok]
    have e3 : ptI op a = 0 := by simp [ptI, hok]
    rw [e2, e3]
    rw [e1] at H1
    clear e1 e2 e3 hok
    go_enter Tryz.func52, Tryz.ntmps52
    go_wp2_with fail
    refine (unhide H1 _).mono ?_
    rintro e w1 ⟨rfl, hb⟩
    have HB := hide hb
    clear hb
    go_wp2
    go_ret3
    exact ⟨rfl, Bl.par (unhide HB)⟩
  · have hop : isOp op = true := by simp [okB] at hok; exact hok.1
    have h : 0 ≤ op ∧ op < 67 := by simpa [isOp] using hop
    obtain ⟨k, rfl⟩ : ∃ k : Nat, op = k := ⟨op.toNat, by omega⟩
    have hk : k < 67 := by omega
    have e1 : erN k a = 0 := by simp [erN, hok]
    have e3 : ptI k a = pt k := by simp [ptI, hok]
    rw [e3]
    rw [e1] at H1
    have hA := hide SH_at
    have hS := SH_size
    obtain ⟨p1, p2⟩ := SH_put k hk
    obtain ⟨t1, t2, t3⟩ := SH_take k hk
    obtain ⟨b0, hb0⟩ : ∃ b, Hid (b = bS (3 * k)) := ⟨_, rfl⟩
    have HC : Hid (Good b0 a ∧ Good ((48 + pt k : Nat) : Int) a ∧ numb b0 a = tkI k a ∧ numb ((48 + pt k : Nat) : Int) a = pt k) := by
      unfold Hid Good numb
      rw [unhide hb0]
      refine ⟨?_, by omega, ?_, by rw [if_neg (by omega), if_neg (by omega)]; omega⟩
      all_goals
        by_cases h6 : kd k = 6
        · have hr : rightB 6 a = true := by rw [okB_op hk, h6] at hok; exact hok
          have hr := right6 hr
          have e2 : tkI k a = tk k + a := by simp [tkI, hok, h6]
          rcases t3 h6 with ⟨q1, q2⟩ | ⟨q1, q2⟩ <;> first | omega | (rw [q1, e2, q2]; simp) | (rw [q1, e2, q2]; simp; omega)
        · have e2 : tkI k a = tk k := by simp [tkI, hok, h6]
          have q1 := t2 h6
          first | omega | (rw [e2, q1, if_neg (by omega), if_neg (by omega)]; omega)
    have HT : Hid (∀ (c : Int), Good c a → ∀ w, Calls Tryz.prog 65 #[.int .u8 c, .int .i64 a] w fun e w' => e = .returned (.int .i64 (numb c a)) ∧ w' = w) := fun c h w => number_any w c a h
    generalize tkI k a = t at *
    have hB0 : ∀ h, (SH[3 * k]'h).toNat = b0 := fun h => by
      have e := unhide hA (3 * k) (by omega)
      rw [getElem?_pos SH _ h] at e
      rw [Option.some.inj e, UInt8.toNat_ofNat', Nat.mod_eq_of_lt (bS_lt _)]
      exact (unhide hb0).symm
    have hB1 : ∀ h, (SH[3 * k + 1]'h).toNat = 48 + pt k := fun h => by
      have e := unhide hA (3 * k + 1) (by omega)
      rw [getElem?_pos SH _ h] at e
      rw [Option.some.inj e, UInt8.toNat_ofNat', Nat.mod_eq_of_lt (bS_lt _), p1]
    clear e1 e3 hok hop h t1 t2 t3 p1 p2 hA hb0
    generalize pt k = p at *
    have ew1 : IntKind.i64.wrap (3 * (k : Int)) = 3 * (k : Int) := by rw [IntKind.wrap_i64]; omega
    have ew2 : IntKind.i64.wrap (3 * (k : Int) + 1) = 3 * (k : Int) + 1 := by rw [IntKind.wrap_i64]; omega
    have et1 : (3 * (k : Int)).toNat = 3 * k := by omega
    have et2 : (3 * (k : Int) + 1).toNat = 3 * k + 1 := by omega
    have ez1 : (0 : Int) ≤ 3 * (k : Int) := by omega
    have ez2 : (0 : Int) ≤ 3 * (k : Int) + 1 := by omega
    have es1 : 3 * k < SH.size := by rw [hS]; omega
    have es2 : 3 * k + 1 < SH.size := by rw [hS]; omega
    clear hS
    go_enter Tryz.func52, Tryz.ntmps52
    generalize hM : ByteArray.mk ((([48, 48, 32, 48, 49, 32, 48, 49, 32, 48, 49, 32, 48, 49, 32, 48, 49, 32, 48, 49, 32, 49, 48, 32, 49, 50, 32, 50, 50, 32, 48, 49, 32, 49, 48, 32, 50, 49, 32, 50, 49, 32, 50, 49, 32, 50, 49, 32, 50, 49].append [32, 49, 49, 32, 50, 49, 32, 50, 49, 32, 50, 49, 32, 49, 49, 32, 50, 49, 32, 50, 49, 32, 49, 49, 32, 50, 49, 32, 50, 49, 32, 50, 49, 32, 50, 49, 32, 49, 49, 32, 49, 49, 32, 49, 49, 32, 49, 49, 32, 49]).append ([49, 32, 49, 49, 32, 49, 49, 32, 49, 49, 32, 49, 49, 32, 50, 49, 32, 51, 49, 32, 48, 48, 32, 49, 48, 32, 49, 48, 32, 109, 49, 32, 49, 48, 32, 49, 48, 32, 109, 49, 32, 110, 49, 32, 48, 49, 32, 50, 49, 32].append [51, 48, 32, 50, 48, 32, 49, 49, 32, 49, 49, 32, 50, 48, 32, 49, 49, 32, 49, 48, 32, 49, 49, 32, 49, 48, 32, 48, 49, 32, 109, 48, 32, 48, 48, 32, 48, 49, 32, 50, 48, 32, 49, 49, 32, 49, 48, 32, 50, 49, 32])).toArray) = M at *
    have hM' : SH = M := hM
    clear hM
    subst hM'
    go_wp2_with fail
    refine (unhide H1 _).mono ?_
    rintro e w1 ⟨rfl, hb⟩
    have HB := hide hb
    obtain ⟨c0, c1⟩ := par_cells hb
    clear hb
    go_wp2_with fail
    go_quiet (first | (go_at_call 65; exact Calls.quiet_of_same (unhide HT _ (by first | exact (unhide HC).1 | exact (unhide HC).2.1) _)))
    go_wp2_with fail
    go_ret3
    have q1 := (unhide HC).2.2.1
    have q2 := (unhide HC).2.2.2
    refine ⟨?_, Below.drewN (Bl.par (unhide HB)) _⟩
    show Ending.returned (.tuple #[.int .i64 (numb (b0 : Int) a), .int .i64 (numb ((48 + p : Nat) : Int) a), .bool true]) = _
    rw [q1, q2]
set_option maxRecDepth 100000 in
set_option maxHeartbeats 1000000 in
theorem dJumps_any (w : World) (op : Int) : Calls Tryz.prog 81 #[.int .i64 op] w fun e w' => e = .returned (.bool (jmB op)) ∧ w' = w := by
  unfold jmB
  by_cases h0 : op = 40 <;> by_cases h1 : op = 41 <;> by_cases h2 : op = 42
  all_goals first | (exfalso; omega) | skip
  all_goals
    go_enter Tryz.func81, Tryz.ntmps81
    go_wp2
    go_ret
    simp_all
set_option maxRecDepth 100000 in
set_option maxHeartbeats 1000000 in
theorem dEnds_any (w : World) (op : Int) : Calls Tryz.prog 36 #[.int .i64 op] w fun e w' => e = .returned (.bool (enB op)) ∧ w' = w := by
  unfold enB
  by_cases h0 : op = 40 <;> by_cases h1 : op = 44 <;> by_cases h2 : op = 45
  all_goals first | (exfalso; omega) | skip
  all_goals
    go_enter Tryz.func36, Tryz.ntmps36
    go_wp2
    go_ret
    simp_all
/-- The places behind an instruction. -/
def nxl (N : Nat) (op a : Int) (p : Nat) : List Int := (if jmB op then [a] else []) ++ (if enB op = false ∧ p + 1 < N then [(p : Int) + 1] else [])
set_option maxRecDepth 100000 in
set_option maxHeartbeats 6400000 in
theorem tnext_any {w : World} {f : Fc} {x : Fv} {p : Nat} {op a : Int} (hx : FnV w f x) (hi : f.code[p]? = some (op, a)) (hN : f.code.length ≤ 2000) :
    Calls Tryz.prog 64 #[.agg #[.string x.name, .int .i64 x.params, .int .i64 x.locals, x.cv, x.hv], .int .i64 (p : Int)] w fun e w' => ∃ v, e = .returned v ∧ Gn w (nxl f.code.length op a p) v w' := by
  obtain ⟨cb, co, cc, ecv, _, _, lc, hc⟩ := Rx.elem zI hx.2.2.2.1 hi
  obtain ⟨N, hNN⟩ : ∃ N, Hid (f.code.length = N) := ⟨_, rfl⟩
  have hp : p < N := by rw [← unhide hNN]; exact (List.getElem?_eq_some_iff.1 hi).1
  rw [unhide hNN] at ecv hN
  have k0 := hc 0 _ rfl
  have k1 := hc 1 _ rfl
  rw [Nat.add_zero] at k0
  obtain ⟨_, ha2, hc2, ehv, _, _, _⟩ := hx.2.2.2.2
  obtain ⟨jm, hJ⟩ : ∃ T, Hid (jmB op = T) := ⟨_, rfl⟩
  obtain ⟨en, hE⟩ : ∃ T, Hid (enB op = T) := ⟨_, rfl⟩
  have HJ : Hid (∀ w, Calls Tryz.prog 81 #[.int .i64 op] w fun e w' => e = .returned (.bool jm) ∧ Below w.heap.size w w') := fun w => by rw [← unhide hJ]; exact (dJumps_any w op).mono fun e w' h => ⟨h.1, h.2 ▸ Below.refl _ _⟩
  have HE : Hid (∀ w, Calls Tryz.prog 36 #[.int .i64 op] w fun e w' => e = .returned (.bool en) ∧ w' = w) := fun w => by rw [← unhide hE]; exact dEnds_any w op
  have HNX : Hid (nxl f.code.length op a p = (if jm then [a] else []) ++ (if en = false ∧ p + 1 < N then [(p : Int) + 1] else [])) := by unfold Hid nxl; rw [unhide hJ, unhide hE, unhide hNN]
  obtain ⟨nm, pr, lcl, cv', hv'⟩ := x
  simp only at ecv ehv
  subst ecv ehv
  have p0 : (0 : Int) ≤ (p : Int) := by omega
  have p1 : (p : Int) < (N : Int) := by omega
  have hpw : IntKind.i64.wrap ((p : Int) + 1) = (p : Int) + 1 := by rw [IntKind.wrap_i64]; omega
  obtain ⟨X2, eX2⟩ : ∃ X2, X2 = (w.alloc (.cells #[.string nm, .int .i64 pr, .int .i64 lcl, .slice (some ⟨cb, co, none⟩) N cc, .slice ha2 f.hs.length hc2] 45)).alloc (.cells #[.int .i64 op, .int .i64 a] 47) := ⟨_, rfl⟩
  have f2 : Below w.heap.size w X2 := by rw [eX2]; exact ((Below.refl _ w).alloc (Nat.le_refl _) _).alloc (by simp) _
  have s2 : X2.heap.size = w.heap.size + 2 := by rw [eX2]; simp
  have nb := fun j z (hz : #[Value.string nm, .int .i64 pr, .int .i64 lcl, .slice (some ⟨cb, co, none⟩) N cc, .slice ha2 f.hs.length hc2].toList[j]? = some z) => new_cells w #[.string nm, .int .i64 pr, .int .i64 lcl, .slice (some ⟨cb, co, none⟩) N cc, .slice ha2 f.hs.length hc2] 45 j z hz
  have nb2 := fun j z (hz : #[Value.int .i64 op, .int .i64 a].toList[j]? = some z) => new_cells (w.alloc (.cells #[.string nm, .int .i64 pr, .int .i64 lcl, .slice (some ⟨cb, co, none⟩) N cc, .slice ha2 f.hs.length hc2] 45)) #[.int .i64 op, .int .i64 a] 47 j z hz
  have b3 : X2.cell? ⟨w.heap.size, 3, none⟩ = some (.slice (some ⟨cb, co, none⟩) N cc) := by
    have := nb 3 _ rfl; rw [Go.WideShapes.add_plain] at this
    rw [eX2]; exact (World.cell?_alloc_lt _ _ _ (by show w.heap.size < _; simp)).trans this
  have i0 : X2.cell? ⟨w.heap.size + 1, 0, none⟩ = some (.int .i64 op) := by
    have := nb2 0 _ rfl; rw [Go.WideShapes.add_plain, World.size_alloc] at this; rw [eX2]; exact this
  have i1 : X2.cell? ⟨w.heap.size + 1, 1, none⟩ = some (.int .i64 a) := by
    have := nb2 1 _ rfl; rw [Go.WideShapes.add_plain, World.size_alloc] at this; rw [eX2]; exact this
  have HF2 := hide f2
  clear hx hi hc nb nb2 f2
  go_enter Tryz.func64, Tryz.ntmps64
  go_wp2_with fail
  rw [← eX2]
  refine (unhide HJ _).mono ?_
  rintro e X3 ⟨rfl, hb3⟩
  have b3 := hb3.cell (p := ⟨w.heap.size, 3, none⟩) (by show w.heap.size < _; omega) |>.trans b3
  have i0 := hb3.cell (p := ⟨w.heap.size + 1, 0, none⟩) (by show w.heap.size + 1 < _; omega) |>.trans i0
  have i1 := hb3.cell (p := ⟨w.heap.size + 1, 1, none⟩) (by show w.heap.size + 1 < _; omega) |>.trans i1
  have hs3 := hb3.size
  rw [s2] at hs3
  have lb : w.heap.size < X3.heap.size := by omega
  have li : w.heap.size + 1 < X3.heap.size := by omega
  have G0 : Hid (Gn w [] (.slice none 0 0) X3) := ⟨Ro.nil _ _, (unhide HF2).trans (hb3.mono (by have := (unhide HF2).size; omega)), fun k hk => by simp [Value.ownBlock] at hk⟩
  clear hb3 k0 k1 lc eX2
  cases jm with
  | true =>
    go_wp2_with (first | (at_builtin; refine wpList_appN rfl _ _ rfl (.slice none 0 0) [] rfl (Ro.nil _ _) ⟨X3.heap.size, 0, none⟩ 1 a rfl (new_cells X3 #[.int .i64 a] 3) (by simp) ?_; intro v4 w4 hr4 hg4 hat4; obtain ⟨va, vc, ev, _, _⟩ := hr4.shape; subst ev; have G1 := hide ((unhide G0).push (p := a) hr4 rfl hg4 hat4); have f4 := ((Fr.refl (fun _ => False) X3).alloc (.cells #[.int .i64 a] 3)).grown hg4 (fun k e => by cases e); have b3 := (f4.cell (a := ⟨w.heap.size, 3, none⟩) lb (fun e => e)).trans b3; have i0 := (f4.cell (a := ⟨w.heap.size + 1, 0, none⟩) li (fun e => e)).trans i0; have lb := Nat.lt_of_lt_of_le lb f4.size; have li := Nat.lt_of_lt_of_le li f4.size; clear hr4 hg4 hat4 f4))
    refine (unhide HE _).mono ?_
    rintro e X5 ⟨rfl, rfl⟩
    have hcf : ¬ (False) := id
    cases en with
    | true =>
      go_wp2_with fail
      go_ret
      exact ⟨_, rfl, by rw [unhide HNX]; simpa using unhide G1⟩
    | false =>
      by_cases hp1 : p + 1 < N
      · have hp2 : (p : Int) + 1 < (N : Int) := by omega
        go_wp2_with (first | (at_builtin; refine wpList_appN rfl _ _ rfl (.slice va 1 vc) [a] rfl ((unhide G1).1.keep (fun g hg => Below.heap_alloc _ _ _ ((unhide G1).1.lt g hg))) ⟨X5.heap.size, 0, none⟩ 1 ((p : Int) + 1) rfl (new_cells X5 #[.int .i64 ((p : Int) + 1)] 3) (by simp) ?_; intro v6 w6 hr6 hg6 hat6; obtain ⟨va6, vc6, ev6, _, _⟩ := hr6.shape; subst ev6; have G2 := hide ((unhide G1).push (p := (p : Int) + 1) hr6 rfl hg6 hat6); clear hr6 hg6 hat6))
        go_ret
        exact ⟨_, rfl, by rw [unhide HNX]; simpa [hp1] using unhide G2⟩
      · have hp2 : ¬ (p : Int) + 1 < (N : Int) := by omega
        go_wp2_with fail
        go_ret
        exact ⟨_, rfl, by rw [unhide HNX, if_neg (c := _ ∧ _) (fun q => hp1 q.2)]; simpa using unhide G1⟩
  | false =>
    go_wp2_with fail
    refine (unhide HE _).mono ?_
    rintro e X5 ⟨rfl, rfl⟩
    have hcf : ¬ (False) := id
    cases en with
    | true =>
      go_wp2_with fail
      go_ret
      exact ⟨_, rfl, by rw [unhide HNX]; simpa using unhide G0⟩
    | false =>
      by_cases hp1 : p + 1 < N
      · have hp2 : (p : Int) + 1 < (N : Int) := by omega
        go_wp2_with (first | (at_builtin; refine wpList_appN rfl _ _ rfl (.slice none 0 0) [] rfl ((unhide G0).1.keep (fun g hg => Below.heap_alloc _ _ _ ((unhide G0).1.lt g hg))) ⟨X5.heap.size, 0, none⟩ 1 ((p : Int) + 1) rfl (new_cells X5 #[.int .i64 ((p : Int) + 1)] 3) (by simp) ?_; intro v6 w6 hr6 hg6 hat6; obtain ⟨va6, vc6, ev6, _, _⟩ := hr6.shape; subst ev6; have G2 := hide ((unhide G0).push (p := (p : Int) + 1) hr6 rfl hg6 hat6); clear hr6 hg6 hat6))
        go_ret
        exact ⟨_, rfl, by rw [unhide HNX]; simpa [hp1] using unhide G2⟩
      · have hp2 : ¬ (p : Int) + 1 < (N : Int) := by omega
        go_wp2_with fail
        go_ret
        exact ⟨_, rfl, by rw [unhide HNX, if_neg (c := _ ∧ _) (fun q => hp1 q.2)]; simpa using unhide G0⟩
set_option linter.unusedVariables false
set_option linter.unusedSimpArgs false
theorem nxl_len (N : Nat) (op a : Int) (p : Nat) : (nxl N op a p).length ≤ 2 := by
  unfold nxl
  split <;> split <;> simp

theorem nxl_bd {f : Fc} (h : OkF f) {p : Nat} {op a t : Int} (hi : f.code[p]? = some (op, a)) (ht : t ∈ nxl f.code.length op a p) : 0 ≤ t ∧ t < (f.code.length : Int) := by
  obtain ⟨ho, hj⟩ := h.ins p op a hi
  unfold nxl at ht
  rw [List.mem_append] at ht
  rcases ht with ht | ht
  · split at ht
    · rename_i q
      simp at ht
      rw [ht]
      exact hj q
    · simp at ht
  · split at ht
    · rename_i q
      simp at ht
      omega
    · simp at ht
end Go.Proofs.YtbkfnmkfbdoadaaGreatDoor
