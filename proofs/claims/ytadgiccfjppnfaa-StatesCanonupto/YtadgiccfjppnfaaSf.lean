/-
  code.Safe, of both sides.
-/
import Derived.Test.YtadgiccfjppnfaaFms
import Derived.Deep.LoopGhost
import Derived.Deep.RegionHeld3
namespace Go.Proofs.Ytadgiccfjppnfaa
open Go.RowKit
set_option linter.unusedVariables false
/-- Kind of the operand, how many are taken, how many put. -/
def shL : List (Nat × Nat × Nat) := [
  (0, 0, 0),
  (0, 0, 1),
  (0, 0, 1),
  (0, 0, 1),
  (1, 0, 1),
  (4, 0, 1),
  (5, 0, 1),
  (0, 1, 0),
  (0, 1, 2),
  (0, 2, 2),
  (3, 0, 1),
  (3, 1, 0),
  (0, 2, 1),
  (0, 2, 1),
  (0, 2, 1),
  (0, 2, 1),
  (0, 2, 1),
  (0, 1, 1),
  (0, 2, 1),
  (0, 2, 1),
  (0, 2, 1),
  (0, 1, 1),
  (0, 2, 1),
  (0, 2, 1),
  (7, 1, 1),
  (0, 2, 1),
  (0, 2, 1),
  (0, 2, 1),
  (0, 2, 1),
  (0, 1, 1),
  (0, 1, 1),
  (0, 1, 1),
  (0, 1, 1),
  (0, 1, 1),
  (0, 1, 1),
  (0, 1, 1),
  (0, 1, 1),
  (0, 1, 1),
  (0, 2, 1),
  (0, 3, 1),
  (2, 0, 0),
  (2, 1, 0),
  (2, 1, 0),
  (6, 1, 1),
  (0, 1, 0),
  (0, 1, 0),
  (6, 1, 1),
  (6, 0, 1),
  (0, 0, 1),
  (0, 2, 1),
  (0, 3, 0),
  (0, 2, 0),
  (0, 1, 1),
  (4, 1, 1),
  (4, 2, 0),
  (4, 1, 1),
  (4, 1, 0),
  (0, 1, 1),
  (0, 1, 0),
  (0, 0, 1),
  (6, 1, 0),
  (0, 0, 0),
  (8, 0, 1),
  (0, 2, 0),
  (0, 1, 1),
  (0, 1, 0),
  (0, 2, 1)]
def kd (k : Nat) : Nat := (shL.getD k (0, 0, 0)).1
def tk (k : Nat) : Nat := (shL.getD k (0, 0, 0)).2.1
def pt (k : Nat) : Nat := (shL.getD k (0, 0, 0)).2.2
def S3 (a b c : Int) : Value := .agg #[.int .i64 a, .int .i64 b, .int .i64 c]
def shTab : Array Value := (shL.flatMap fun s => [Value.int .i64 s.1, .int .i64 s.2.1, .int .i64 s.2.2]).toArray
theorem of_range {α : Type} (n : Nat) {f g : Nat → α} (h : (List.range n).map f = (List.range n).map g) (k : Nat) (hk : k < n) : f k = g k :=
  (List.map_inj_left.1 h) k (List.mem_range.2 hk)
theorem sh_at (w : World) (k : Nat) (hk : k < 67) : (Instr.index 132 (.agg shTab) (.int .i64 (k : Int))).run Try.prog w = .ok (.agg #[.int .i64 (kd k), .int .i64 (tk k), .int .i64 (pt k)]) w :=
  of_range 67 (f := fun k => (Instr.index 132 (.agg shTab) (.int .i64 ((k : Nat) : Int))).run Try.prog w) (g := fun k => .ok (.agg #[.int .i64 (kd k), .int .i64 (tk k), .int .i64 (pt k)]) w) (by kernel_rfl) k hk
/-- Some operations one behind the other, that answer values. -/
def runs (P : Program) : List Oper → Act → World → Option (Act × World)
  | [], a, w => some (a, w)
  | o :: r, a, w => match o.guard with
    | some _ => none
    | none => match (execOp a.eval o).run P w with
      | .ok (.value v) w' => runs P r (a.put o.dst v) w'
      | _ => none
theorem wpList_runs {P : Program} {ops : Array Oper} {Q : Exit → Act → World → Prop} {rest : List Oper} {a' : Act} {w' : World} : ∀ (l : List Oper) (a : Act) (w : World),
    runs P l a w = some (a', w') → wpList P ops Q rest a' w' → wpList P ops Q (l ++ rest) a w
  | [], a, w, h, k => by
    simp only [runs, Option.some.injEq, Prod.mk.injEq] at h
    obtain ⟨rfl, rfl⟩ := h
    exact k
  | o :: r, a, w, h, k => by
    rw [runs] at h
    split at h
    · cases h
    · rename_i hg
      split at h
      · rename_i v w2 hv
        refine wpList_plain hg fun K hK => ?_
        unfold Oper.wp
        rw [hv]
        exact hK _ _ (wpList_runs r _ _ h k)
      · cases h
theorem wpList_skip {P : Program} {ops : Array Oper} {Q : Exit → Act → World → Prop} {l : List Oper} {a : Act} {w : World} (m n : Nat) (_ : l.length = m) (a' : Act)
    (h : runs P (l.take n) a w = some (a', w)) (k : wpList P ops Q (l.drop n) a' w) : wpList P ops Q l a w := by
  have := wpList_runs (rest := l.drop n) (l.take n) a w h k
  rwa [List.take_append_drop] at this
set_option maxRecDepth 100000 in
theorem known_any (w : World) (op : Int) : Calls Try.prog 88 #[.int .i64 op] w fun e w' => e = .returned (.bool (decide (0 ≤ op ∧ op < 67))) ∧ w' = w := by
  go_enter Try.func88, Try.ntmps88
  by_cases h0 : 0 ≤ op <;> by_cases h1 : op < 67
  all_goals
    go_wp2
    go_ret
    simp_all
set_option maxRecDepth 100000 in
set_option maxHeartbeats 4000000 in
theorem shapeOf_any (w : World) (k : Nat) (h : k < 67) : Calls Try.prog 89 #[.int .i64 k] w fun e w' => e = .returned (.agg #[.int .i64 (kd k), .int .i64 (tk k), .int .i64 (pt k)]) ∧ Below w.heap.size w w' := by
  have hix := fun w => sh_at w k h
  generalize ((kd k : Nat) : Int) = a at *
  generalize ((tk k : Nat) : Int) = b at *
  generalize ((pt k : Nat) : Int) = c at *
  go_enter Try.func89, Try.ntmps89
  go_step
  go_step
  go_step
  go_step
  go_step
  go_step
  go_step
  go_step
  go_step
  go_step
  go_step
  refine wpList_skip 71 68 rfl ⟨#[.int .i64 k, undef, .pointer (some ⟨w.heap.size, 0, none⟩), S3 0 0 0, S3 0 0 1, S3 0 0 1, S3 0 0 1, S3 1 0 1, S3 4 0 1, S3 5 0 1, S3 0 1 0, S3 0 1 2, S3 0 2 2, S3 3 0 1, S3 3 1 0, S3 0 2 1, S3 0 2 1, S3 0 2 1, S3 0 2 1, S3 0 2 1, S3 0 1 1, S3 0 2 1, S3 0 2 1, S3 0 2 1, S3 0 1 1, S3 0 2 1, S3 0 2 1, S3 7 1 1, S3 0 2 1, S3 0 2 1, S3 0 2 1, S3 0 2 1, S3 0 1 1, S3 0 1 1, S3 0 1 1, S3 0 1 1, S3 0 1 1, S3 0 1 1, S3 0 1 1, S3 0 1 1, S3 0 1 1, S3 0 2 1, S3 0 3 1, S3 2 0 0, S3 2 1 0, S3 2 1 0, S3 6 1 1, S3 0 1 0, S3 0 1 0, S3 6 1 1, S3 6 0 1, S3 0 0 1, S3 0 2 1, S3 0 3 0, S3 0 2 0, S3 0 1 1, S3 4 1 1, S3 4 2 0, S3 4 1 1, S3 4 1 0, S3 0 1 1, S3 0 1 0, S3 0 0 1, S3 6 1 0, S3 0 0 0, S3 8 0 1, S3 0 2 0, S3 0 1 1, S3 0 1 0, S3 0 2 1, .agg shTab, undef, undef], []⟩ (by kernel_rfl) ?_
  change wpList _ _ _ (_ :: _ :: _ :: []) _ _
  go_wp2
  refine bodyPost_ret (v := .agg #[.int .i64 a, .int .i64 b, .int .i64 c]) ?_ rfl ⟨rfl, (Below.refl _ _).alloc (Nat.le_refl _) _⟩
  rw [results_cell_one rfl]
  go_simp
/-- Is it an operation's number? -/
def isOp (op : Int) : Bool := decide (0 ≤ op ∧ op < 67)
def kdI (op : Int) : Int := if isOp op then (kd op.toNat : Int) else 0
theorem isOp_nat {k : Nat} (h : k < 67) : isOp (k : Int) = true := by simp [isOp]; omega
theorem isOp_no {op : Int} (h : ¬ (0 ≤ op ∧ op < 67)) : isOp op = false := by simp only [isOp, decide_eq_false_iff_not]; exact h
theorem kdI_nat {k : Nat} (h : k < 67) : kdI (k : Int) = kd k := by rw [kdI, isOp_nat h]; simp
theorem kdI_no {op : Int} (h : ¬ (0 ≤ op ∧ op < 67)) : kdI op = 0 := by rw [kdI, isOp_no h]; simp
theorem kd_lt (k : Nat) : kd k < 9 := by
  by_cases h : k < 67
  · have : ∀ k : Fin 67, kd k.val < 9 := by decide +kernel
    exact this ⟨k, h⟩
  · have : shL.length = 67 := by decide +kernel
    simp [kd, List.getD_eq_getElem?_getD, List.getElem?_eq_none (by omega : shL.length ≤ k)]
theorem kd_tab1 : ∀ k : Fin 67, (k.val = 4 → kd k.val = 1) ∧ ((k.val = 40 ∨ k.val = 41 ∨ k.val = 42) → kd k.val = 2) ∧ ((k.val = 10 ∨ k.val = 11) → kd k.val = 3) := by decide +kernel
theorem kd_tab2 : ∀ k : Fin 67, ((k.val = 5 ∨ k.val = 53 ∨ k.val = 54 ∨ k.val = 55 ∨ k.val = 56) → kd k.val = 4) ∧ (k.val = 6 → kd k.val = 5) := by decide +kernel
theorem kd_tab3 : ∀ k : Fin 67, ((k.val = 43 ∨ k.val = 46 ∨ k.val = 47 ∨ k.val = 60) → kd k.val = 6) ∧ (k.val = 24 → kd k.val = 7) ∧ (k.val = 62 → kd k.val = 8) := by decide +kernel
theorem kd_tab4 : ∀ k : Fin 67, kd k.val = 0 ∨ k.val ∈ [4, 40, 41, 42, 10, 11, 5, 53, 54, 55, 56, 6, 43, 46, 47, 60, 24, 62] := by decide +kernel
theorem kd_tab (k : Nat) (h : k < 67) : ((k = 4 → kd k = 1) ∧ ((k = 40 ∨ k = 41 ∨ k = 42) → kd k = 2) ∧ ((k = 10 ∨ k = 11) → kd k = 3)) ∧
    (((k = 5 ∨ k = 53 ∨ k = 54 ∨ k = 55 ∨ k = 56) → kd k = 4) ∧ (k = 6 → kd k = 5)) ∧ (((k = 43 ∨ k = 46 ∨ k = 47 ∨ k = 60) → kd k = 6) ∧ (k = 24 → kd k = 7) ∧ (k = 62 → kd k = 8)) ∧
    (kd k = 0 ∨ (k = 4 ∨ k = 40 ∨ k = 41 ∨ k = 42 ∨ k = 10 ∨ k = 11 ∨ k = 5 ∨ k = 53 ∨ k = 54 ∨ k = 55 ∨ k = 56 ∨ k = 6 ∨ k = 43 ∨ k = 46 ∨ k = 47 ∨ k = 60 ∨ k = 24 ∨ k = 62)) := by
  have h4 := kd_tab4 ⟨k, h⟩
  simp only [List.mem_cons, List.not_mem_nil, or_false] at h4
  exact ⟨kd_tab1 ⟨k, h⟩, kd_tab2 ⟨k, h⟩, kd_tab3 ⟨k, h⟩, h4⟩
theorem fld3_0 (a b c : Value) (w : World) : (Instr.field 130 (.agg #[a, b, c]) 0).run Try.prog w = .ok a w := by kernel_rfl
theorem fld3_1 (a b c : Value) (w : World) : (Instr.field 130 (.agg #[a, b, c]) 1).run Try.prog w = .ok b w := by kernel_rfl
theorem fld3_2 (a b c : Value) (w : World) : (Instr.field 130 (.agg #[a, b, c]) 2).run Try.prog w = .ok c w := by kernel_rfl
set_option maxRecDepth 100000 in
set_option maxHeartbeats 1000000 in
theorem operand_any (w : World) (op : Int) : Calls Try.prog 87 #[.int .i64 op] w fun e w' => e = .returned (.tuple #[.int .i64 (kdI op), .bool (isOp op)]) ∧ Below w.heap.size w w' := by
  by_cases h : 0 ≤ op ∧ op < 67
  · obtain ⟨k, rfl⟩ : ∃ k : Nat, op = k := ⟨op.toNat, by omega⟩
    have hk : k < 67 := by omega
    rw [kdI_nat hk, isOp_nat hk]
    have H1 := hide (known_any w (k : Int))
    have hd : decide (0 ≤ (k : Int) ∧ (k : Int) < 67) = true := by simpa using h
    rw [hd] at H1
    have H2 := hide (fun w => shapeOf_any w k hk)
    clear h hd hk
    go_enter Try.func87, Try.ntmps87
    go_wp2_with fail
    refine (unhide H1).mono ?_
    rintro e w' ⟨rfl, rfl⟩
    go_wp2_with fail
    refine (unhide H2 _).mono ?_
    rintro e w1 ⟨rfl, hb⟩
    have HB := hide hb
    clear hb
    have hf := fld3_0
    go_wp2
    go_ret2
    exact ⟨rfl, unhide HB⟩
  · rw [kdI_no h, isOp_no h]
    have H1 := hide (known_any w op)
    have hd : decide (0 ≤ op ∧ op < 67) = false := by simpa using h
    rw [hd] at H1
    clear h hd
    go_enter Try.func87, Try.ntmps87
    go_wp2_with fail
    refine (unhide H1).mono ?_
    rintro e w' ⟨rfl, rfl⟩
    go_wp2
    go_ret2
    exact ⟨rfl, Below.refl _ _⟩
theorem Bl.go {B : Nat} {w w1 w2 : World} (h : Below B w w1) (hB : B ≤ w1.heap.size) (k : Below w1.heap.size w1 w2) : Below B w w2 := h.trans (k.mono hB)
theorem Bl.par {w w1 : World} {o : Obj} (h : Below (w.alloc o).heap.size (w.alloc o) w1) : Below w.heap.size w w1 :=
  Bl.go ((Below.refl _ w).alloc (Nat.le_refl _) o) (by simp) h
/-- A parameter's cells, behind a call. -/
theorem par_cells {w w1 : World} {x y : Value} {ty : TypeId} (hb : Below (w.alloc (Obj.cells #[x, y] ty)).heap.size (w.alloc (Obj.cells #[x, y] ty)) w1) :
    w1.cell? ⟨w.heap.size, 0, none⟩ = some x ∧ w1.cell? ⟨w.heap.size, 1, none⟩ = some y := by
  refine ⟨(hb.cell (p := ⟨w.heap.size, 0, none⟩) (by simp)).trans (by simp), (hb.cell (p := ⟨w.heap.size, 1, none⟩) (by simp)).trans (by simp)⟩
/-- Does an operation jump? -/
def jmB (op : Int) : Bool := decide (op = 40 ∨ op = 41 ∨ op = 42)
theorem jm_kd (k : Nat) (h : k < 67) : jmB (k : Int) = decide ((kd k : Int) = 2) := by
  have := kd_tab k h
  unfold jmB
  rw [decide_eq_decide]
  generalize kd k = d at *
  omega
theorem jm_no {op : Int} (h : ¬ (0 ≤ op ∧ op < 67)) : jmB op = false := by unfold jmB; rw [decide_eq_false_iff_not]; omega
set_option maxRecDepth 100000 in
set_option maxHeartbeats 1000000 in
theorem jumps_any (w : World) (op : Int) : Calls Try.prog 75 #[.int .i64 op] w fun e w' => e = .returned (.bool (jmB op)) ∧ Below w.heap.size w w' := by
  by_cases h : 0 ≤ op ∧ op < 67
  · obtain ⟨k, rfl⟩ : ∃ k : Nat, op = k := ⟨op.toNat, by omega⟩
    have hk : k < 67 := by omega
    have H1 := hide (operand_any w (k : Int))
    rw [kdI_nat hk, isOp_nat hk] at H1
    rw [jm_kd k hk]
    generalize ((kd k : Nat) : Int) = d at *
    clear h hk
    go_enter Try.func75, Try.ntmps75
    go_wp2_with fail
    refine (unhide H1).mono ?_
    rintro e w1 ⟨rfl, hb⟩
    have HB := hide hb
    clear hb
    by_cases hd : d = 2
    all_goals
      go_wp2
      go_ret
      exact ⟨by simp_all, unhide HB⟩
  · have H1 := hide (operand_any w op)
    rw [kdI_no h, isOp_no h] at H1
    rw [jm_no h]
    clear h
    go_enter Try.func75, Try.ntmps75
    go_wp2_with fail
    refine (unhide H1).mono ?_
    rintro e w1 ⟨rfl, hb⟩
    have HB := hide hb
    clear hb
    go_wp2
    go_ret
    exact ⟨rfl, unhide HB⟩
set_option maxRecDepth 100000 in
set_option maxHeartbeats 1000000 in
theorem dJumps_any (w : World) (op : Int) : Calls Try.prog 76 #[.int .i64 op] w fun e w' => e = .returned (.bool (jmB op)) ∧ w' = w := by
  unfold jmB
  by_cases h0 : op = 40 <;> by_cases h1 : op = 41 <;> by_cases h2 : op = 42
  all_goals first | (exfalso; omega) | skip
  all_goals
    go_enter Try.func76, Try.ntmps76
    go_wp2
    go_ret
    simp_all
/-- Is the instruction at a place a safepoint? -/
def sfB (l : List (Int × Int)) (pc : Int) : Bool :=
  if 0 ≤ pc ∧ pc < l.length then (match l[pc.toNat]? with
    | some p => decide (p.1 = 43) || (jmB p.1 && decide (p.2 ≤ pc))
    | none => false) else false
set_option maxRecDepth 100000 in
set_option maxHeartbeats 2000000 in
theorem dSafe_any {w : World} {lv : Value} {l : List (Int × Int)} (h : Rx w 2 lv l.length (flt enI l)) (pc : Int) :
    Calls Try.prog 51 #[lv, .int .i64 pc] w fun e w' => e = .returned (.bool (sfB l pc)) ∧ Below w.heap.size w w' := by
  have HJ := hide dJumps_any
  have HC := hide (fun i p (hp : l[i]? = some p) => h.elem zI hp)
  obtain ⟨_, a, cap, rfl, hlc, hcm, _⟩ := h
  obtain ⟨L, hL⟩ : ∃ L, Hid (l.length = L) := ⟨_, rfl⟩
  rw [unhide hL] at hlc HC ⊢
  by_cases hin : 0 ≤ pc ∧ pc < L
  · obtain ⟨i, rfl⟩ : ∃ i : Nat, pc = i := ⟨pc.toNat, by omega⟩
    have hil : i < l.length := by rw [unhide hL]; omega
    obtain ⟨p, hp⟩ : ∃ p, l[i]? = some p := ⟨_, List.getElem?_eq_getElem hil⟩
    obtain ⟨b, off, cap', e, _, _, hb, hcs⟩ := unhide HC i p hp
    cases e
    have c0 : w.cell? ⟨b, off + i * 2, none⟩ = some (.int .i64 p.1) := hcs 0 _ rfl
    have c1 : w.cell? ⟨b, off + i * 2 + 1, none⟩ = some (.int .i64 p.2) := hcs 1 _ rfl
    clear hcs
    have hsf : Hid (sfB l i = (decide (p.1 = 43) || (jmB p.1 && decide (p.2 ≤ (i : Int))))) := by
      unfold Hid sfB
      rw [if_pos (by rw [unhide hL]; exact hin), Int.toNat_natCast, hp]
    rw [unhide hsf]
    obtain ⟨x, y⟩ := p
    simp only at c0 c1 ⊢
    have i0 : (0 : Int) ≤ (i : Int) := by omega
    have i1 : (i : Int) < (L : Int) := by omega
    have hJ2 := hide (fun w => unhide HJ w x)
    clear hp hsf hin hil HC hL HJ
    generalize jmB x = jb at *
    by_cases hx : x = 43
    · subst hx
      go_enter Try.func51, Try.ntmps51
      go_wp2_with fail
      go_ret
      exact ⟨rfl, Below.refl _ _⟩
    · have hx' : (x == 43) = false := by simpa using hx
      have hd : decide (x = 43) = false := by simpa using hx
      rw [hd]
      clear hd hx
      by_cases hy : y ≤ (i : Int) <;> cases jb
      all_goals
        go_enter Try.func51, Try.ntmps51
        go_wp2_with fail
        refine (unhide hJ2 _).mono ?_
        rintro e w1 ⟨rfl, rfl⟩
        go_wp2_with fail
        go_ret
        exact ⟨by simp_all, Below.refl _ _⟩
  · have e : sfB l pc = false := by unfold sfB; rw [if_neg (by rw [unhide hL]; exact hin)]
    rw [e]
    clear e
    have hor : pc < 0 ∨ (0 ≤ pc ∧ (L : Int) ≤ pc) := by omega
    clear hin
    rcases hor with h0 | ⟨h0, h1⟩
    all_goals
      go_enter Try.func51, Try.ntmps51
      go_wp2_with fail
      go_ret
      exact ⟨rfl, Below.refl _ _⟩
set_option maxRecDepth 100000 in
set_option maxHeartbeats 2000000 in
theorem safe_any {w : World} {lv : Value} {l : List (Int × Int)} (h : Rx w 2 lv l.length (flt enI l)) (pc : Int) :
    Calls Try.prog 49 #[lv, .int .i64 pc] w fun e w' => e = .returned (.bool (sfB l pc)) ∧ Below w.heap.size w w' := by
  have HJ := hide jumps_any
  have HC := hide (fun i p (hp : l[i]? = some p) => h.elem zI hp)
  obtain ⟨_, a, cap, rfl, hlc, hcm, _⟩ := h
  obtain ⟨L, hL⟩ : ∃ L, Hid (l.length = L) := ⟨_, rfl⟩
  rw [unhide hL] at hlc HC ⊢
  by_cases hin : 0 ≤ pc ∧ pc < L
  · obtain ⟨i, rfl⟩ : ∃ i : Nat, pc = i := ⟨pc.toNat, by omega⟩
    have hil : i < l.length := by rw [unhide hL]; omega
    obtain ⟨p, hp⟩ : ∃ p, l[i]? = some p := ⟨_, List.getElem?_eq_getElem hil⟩
    obtain ⟨b, off, cap', e, _, _, hb, hcs⟩ := unhide HC i p hp
    cases e
    have c0 : w.cell? ⟨b, off + i * 2, none⟩ = some (.int .i64 p.1) := hcs 0 _ rfl
    have c1 : w.cell? ⟨b, off + i * 2 + 1, none⟩ = some (.int .i64 p.2) := hcs 1 _ rfl
    clear hcs
    have hsf : Hid (sfB l i = (decide (p.1 = 43) || (jmB p.1 && decide (p.2 ≤ (i : Int))))) := by
      unfold Hid sfB
      rw [if_pos (by rw [unhide hL]; exact hin), Int.toNat_natCast, hp]
    rw [unhide hsf]
    obtain ⟨x, y⟩ := p
    simp only at c0 c1 ⊢
    have i0 : (0 : Int) ≤ (i : Int) := by omega
    have i1 : (i : Int) < (L : Int) := by omega
    have hJ2 := hide (fun w => unhide HJ w x)
    clear hp hsf hin hil HC hL HJ
    generalize jmB x = jb at *
    by_cases hx : x = 43
    · subst hx
      go_enter Try.func49, Try.ntmps49
      go_wp2_with fail
      go_ret
      exact ⟨rfl, (Below.refl _ _).alloc (Nat.le_refl _) _⟩
    · have hx' : (x == 43) = false := by simpa using hx
      have hd : decide (x = 43) = false := by simpa using hx
      rw [hd]
      clear hd hx
      by_cases hy : y ≤ (i : Int) <;> cases jb
      all_goals
        go_enter Try.func49, Try.ntmps49
        go_wp2_with fail
        refine (unhide hJ2 _).mono ?_
        rintro e w1 ⟨rfl, hb1⟩
        have B1 := hide hb1
        obtain ⟨d0, d1⟩ := par_cells hb1
        clear hb1
        go_wp2_with fail
        go_ret
        exact ⟨by simp_all, Bl.par (unhide B1)⟩
  · have e : sfB l pc = false := by unfold sfB; rw [if_neg (by rw [unhide hL]; exact hin)]
    rw [e]
    clear e
    have hor : pc < 0 ∨ (0 ≤ pc ∧ (L : Int) ≤ pc) := by omega
    clear hin
    rcases hor with h0 | ⟨h0, h1⟩
    all_goals
      go_enter Try.func49, Try.ntmps49
      go_wp2_with fail
      go_ret
      exact ⟨rfl, Below.refl _ _⟩
end Go.Proofs.Ytadgiccfjppnfaa
