/-
  Whether an instruction is right, what it takes and puts, where it goes.
-/
import Derived.Test.YtlogmdldjmkkjaaGreatDoorRBase
import Derived.Deep.LoopGhost
import Derived.WalkKit
import Derived.Below
namespace Go.Proofs.YtlogmdldjmkkjaaGreatDoor
open Go.RowKit

/-- The names in their order. -/
def nmL : List ByteArray := [
  ⟨#[110, 111, 112]⟩,
  ⟨#[110, 105, 108]⟩,
  ⟨#[116, 114, 117, 101]⟩,
  ⟨#[102, 97, 108, 115, 101]⟩,
  ⟨#[105, 110, 116]⟩,
  ⟨#[99, 111, 110, 115, 116]⟩,
  ⟨#[102, 117, 110, 99]⟩,
  ⟨#[112, 111, 112]⟩,
  ⟨#[100, 117, 112]⟩,
  ⟨#[115, 119, 97, 112]⟩,
  ⟨#[108, 111, 97, 100]⟩,
  ⟨#[115, 116, 111, 114, 101]⟩,
  ⟨#[97, 100, 100]⟩,
  ⟨#[115, 117, 98]⟩,
  ⟨#[109, 117, 108]⟩,
  ⟨#[100, 105, 118]⟩,
  ⟨#[114, 101, 109]⟩,
  ⟨#[110, 101, 103]⟩,
  ⟨#[97, 110, 100]⟩,
  ⟨#[111, 114]⟩,
  ⟨#[120, 111, 114]⟩,
  ⟨#[110, 111, 116]⟩,
  ⟨#[115, 104, 108]⟩,
  ⟨#[115, 104, 114]⟩,
  ⟨#[101, 120, 116]⟩,
  ⟨#[101, 113]⟩,
  ⟨#[110, 101]⟩,
  ⟨#[108, 116]⟩,
  ⟨#[108, 101]⟩,
  ⟨#[116, 101, 115, 116]⟩,
  ⟨#[102, 108, 105, 112]⟩,
  ⟨#[116, 111, 105, 110, 116]⟩,
  ⟨#[116, 111, 114, 101, 97, 108]⟩,
  ⟨#[115, 105, 110, 103, 108, 101]⟩,
  ⟨#[116, 111, 116, 101, 120, 116]⟩,
  ⟨#[107, 105, 110, 100]⟩,
  ⟨#[102, 108, 111, 111, 114]⟩,
  ⟨#[115, 113, 114, 116]⟩,
  ⟨#[99, 97, 116]⟩,
  ⟨#[99, 117, 116]⟩,
  ⟨#[106, 117, 109, 112]⟩,
  ⟨#[106, 122]⟩,
  ⟨#[106, 110, 122]⟩,
  ⟨#[99, 97, 108, 108]⟩,
  ⟨#[114, 101, 116]⟩,
  ⟨#[116, 104, 114, 111, 119]⟩,
  ⟨#[98, 105, 110, 100]⟩,
  ⟨#[97, 114, 114, 97, 121]⟩,
  ⟨#[114, 101, 99, 111, 114, 100]⟩,
  ⟨#[103, 101, 116]⟩,
  ⟨#[115, 101, 116]⟩,
  ⟨#[112, 117, 115, 104]⟩,
  ⟨#[108, 101, 110]⟩,
  ⟨#[103, 101, 116, 102]⟩,
  ⟨#[115, 101, 116, 102]⟩,
  ⟨#[104, 97, 115, 102]⟩,
  ⟨#[100, 101, 108, 102]⟩,
  ⟨#[107, 101, 121, 115]⟩,
  ⟨#[112, 114, 105, 110, 116]⟩,
  ⟨#[114, 101, 97, 100]⟩,
  ⟨#[115, 112, 97, 119, 110]⟩,
  ⟨#[121, 105, 101, 108, 100]⟩,
  ⟨#[99, 104, 97, 110]⟩,
  ⟨#[115, 101, 110, 100]⟩,
  ⟨#[114, 101, 99, 118]⟩,
  ⟨#[115, 104, 117, 116]⟩,
  ⟨#[98, 105, 99]⟩]
def nm (k : Nat) : ByteArray := nmL.getD k ByteArray.empty
/-- Kind of the operand, how many are taken, how many put. -/
def shL : List (Nat × Nat × Nat) := [
  (0, 0, 0),
  (0, 0, 1),
  (0, 0, 1),
  (0, 0, 1),
  (1, 0, 1),
  (4, 0, 1),
  (5, 0, 1),
  (0, 1, 0),
  (0, 1, 2),
  (0, 2, 2),
  (3, 0, 1),
  (3, 1, 0),
  (0, 2, 1),
  (0, 2, 1),
  (0, 2, 1),
  (0, 2, 1),
  (0, 2, 1),
  (0, 1, 1),
  (0, 2, 1),
  (0, 2, 1),
  (0, 2, 1),
  (0, 1, 1),
  (0, 2, 1),
  (0, 2, 1),
  (7, 1, 1),
  (0, 2, 1),
  (0, 2, 1),
  (0, 2, 1),
  (0, 2, 1),
  (0, 1, 1),
  (0, 1, 1),
  (0, 1, 1),
  (0, 1, 1),
  (0, 1, 1),
  (0, 1, 1),
  (0, 1, 1),
  (0, 1, 1),
  (0, 1, 1),
  (0, 2, 1),
  (0, 3, 1),
  (2, 0, 0),
  (2, 1, 0),
  (2, 1, 0),
  (6, 1, 1),
  (0, 1, 0),
  (0, 1, 0),
  (6, 1, 1),
  (6, 0, 1),
  (0, 0, 1),
  (0, 2, 1),
  (0, 3, 0),
  (0, 2, 0),
  (0, 1, 1),
  (4, 1, 1),
  (4, 2, 0),
  (4, 1, 1),
  (4, 1, 0),
  (0, 1, 1),
  (0, 1, 0),
  (0, 0, 1),
  (6, 1, 0),
  (0, 0, 0),
  (8, 0, 1),
  (0, 2, 0),
  (0, 1, 1),
  (0, 1, 0),
  (0, 2, 1)]
def kd (k : Nat) : Nat := (shL.getD k (0, 0, 0)).1
def tk (k : Nat) : Nat := (shL.getD k (0, 0, 0)).2.1
def pt (k : Nat) : Nat := (shL.getD k (0, 0, 0)).2.2
def spL : List (Int × Int) := [(0, 0), (-9223372036854775808, 9223372036854775807), (0, 1999), (0, 63), (0, 511), (0, 127), (0, 63), (0, 0), (1, 64)]
def lo (k : Nat) : Int := (spL.getD k (0, 0)).1
def hi (k : Nat) : Int := (spL.getD k (0, 0)).2

def S3 (a b c : Int) : Value := .agg #[.int .i64 a, .int .i64 b, .int .i64 c]
def S2 (a b : Int) : Value := .agg #[.int .i64 a, .int .i64 b]
def shTab : Array Value := (shL.flatMap fun s => [Value.int .i64 s.1, .int .i64 s.2.1, .int .i64 s.2.2]).toArray
def spTab : Array Value := (spL.flatMap fun s => [Value.int .i64 s.1, .int .i64 s.2]).toArray

theorem of_range {α : Type} (n : Nat) {f g : Nat → α} (h : (List.range n).map f = (List.range n).map g) (k : Nat) (hk : k < n) : f k = g k :=
  (List.map_inj_left.1 h) k (List.mem_range.2 hk)

theorem sh_at (w : World) (k : Nat) (hk : k < 67) : (Instr.index 255 (.agg shTab) (.int .i64 (k : Int))).run Tryz.prog w = .ok (.agg #[.int .i64 (kd k), .int .i64 (tk k), .int .i64 (pt k)]) w :=
  of_range 67 (f := fun k => (Instr.index 255 (.agg shTab) (.int .i64 ((k : Nat) : Int))).run Tryz.prog w) (g := fun k => .ok (.agg #[.int .i64 (kd k), .int .i64 (tk k), .int .i64 (pt k)]) w) (by kernel_rfl) k hk
theorem sp_at (w : World) (k : Nat) (hk : k < 9) : (Instr.index 296 (.agg spTab) (.int .i64 (k : Int))).run Tryz.prog w = .ok (.agg #[.int .i64 (lo k), .int .i64 (hi k)]) w :=
  of_range 9 (f := fun k => (Instr.index 296 (.agg spTab) (.int .i64 ((k : Nat) : Int))).run Tryz.prog w) (g := fun k => .ok (.agg #[.int .i64 (lo k), .int .i64 (hi k)]) w) (by kernel_rfl) k hk

/-- Some operations one behind the other, that answer values. -/
def runs (P : Program) : List Oper → Act → World → Option (Act × World)
  | [], a, w => some (a, w)
  | o :: r, a, w => match o.guard with
    | some _ => none
    | none => match (execOp a.eval o).run P w with
      | .ok (.value v) w' => runs P r (a.put o.dst v) w'
      | _ => none
theorem wpList_runs {P : Program} {ops : Array Oper} {Q : Exit → Act → World → Prop} {rest : List Oper} {a' : Act} {w' : World} : ∀ (l : List Oper) (a : Act) (w : World),
    runs P l a w = some (a', w') → wpList P ops Q rest a' w' → wpList P ops Q (l ++ rest) a w
  | [], a, w, h, k => by
    simp only [runs, Option.some.injEq, Prod.mk.injEq] at h
    obtain ⟨rfl, rfl⟩ := h
    exact k
  | o :: r, a, w, h, k => by
    rw [runs] at h
    split at h
    · cases h
    · rename_i hg
      split at h
      · rename_i v w2 hv
        refine wpList_plain hg fun K hK => ?_
        unfold Oper.wp
        rw [hv]
        exact hK _ _ (wpList_runs r _ _ h k)
      · cases h
theorem wpList_skip {P : Program} {ops : Array Oper} {Q : Exit → Act → World → Prop} {l : List Oper} {a : Act} {w : World} (m n : Nat) (_ : l.length = m) (a' : Act)
    (h : runs P (l.take n) a w = some (a', w)) (k : wpList P ops Q (l.drop n) a' w) : wpList P ops Q l a w := by
  have := wpList_runs (rest := l.drop n) (l.take n) a w h k
  rwa [List.take_append_drop] at this

theorem results_cell_one {fn : Func} {p : Tmp} {ty : TypeId} (h : fn.results = #[.cell p ty]) (tmps : Array Value) (P : Program) (w : World) :
    (results fn tmps).run P w = ((asAddr (tmps.getD p undef)).run P w).andThen fun a w₁ => (loadVar ty a).run P w₁ := by
  simp only [results, h]
  simp [Sem.run_bind, Result.andThen]

set_option maxRecDepth 100000 in
theorem known_any (w : World) (op : Int) : Calls Tryz.prog 195 #[.int .i64 op] w fun e w' => e = .returned (.bool (decide (0 ≤ op ∧ op < 67))) ∧ w' = w := by
  go_enter Tryz.func195, Tryz.ntmps195
  by_cases h0 : 0 ≤ op <;> by_cases h1 : op < 67
  all_goals
    go_wp2
    go_ret
    simp_all

set_option maxRecDepth 100000 in
set_option maxHeartbeats 4000000 in
theorem spanOf_any (w : World) (k : Nat) (h : k < 9) : Calls Tryz.prog 196 #[.int .i64 k] w fun e w' => e = .returned (.agg #[.int .i64 (lo k), .int .i64 (hi k)]) ∧ Below w.heap.size w w' := by
  have hix := fun w => sp_at w k h
  generalize lo k = a at *
  generalize hi k = b at *
  go_enter Tryz.func196, Tryz.ntmps196
  go_wp2_with (refine wpList_skip 12 9 rfl ⟨#[.int .i64 k, undef, .pointer (some ⟨w.heap.size, 0, none⟩), S2 (0) 0, S2 (-9223372036854775808) 9223372036854775807, S2 (0) 1999, S2 (0) 63, S2 (0) 511, S2 (0) 127, S2 (0) 63, S2 (1) 64, .agg spTab, undef, undef], []⟩ (by kernel_rfl) ?_; simp only [List.drop])
  refine bodyPost_ret (v := .agg #[.int .i64 a, .int .i64 b]) ?_ rfl ⟨rfl, (Below.refl _ _).alloc (Nat.le_refl _) _⟩
  rw [results_cell_one rfl]
  go_simp

set_option maxRecDepth 100000 in
set_option maxHeartbeats 4000000 in
theorem shapeOf_any (w : World) (k : Nat) (h : k < 67) : Calls Tryz.prog 123 #[.int .i64 k] w fun e w' => e = .returned (.agg #[.int .i64 (kd k), .int .i64 (tk k), .int .i64 (pt k)]) ∧ Below w.heap.size w w' := by
  have hix := fun w => sh_at w k h
  generalize ((kd k : Nat) : Int) = a at *
  generalize ((tk k : Nat) : Int) = b at *
  generalize ((pt k : Nat) : Int) = c at *
  go_enter Tryz.func123, Tryz.ntmps123
  go_step
  go_step
  go_step
  go_step
  go_step
  go_step
  go_step
  go_step
  go_step
  go_step
  go_step
  refine wpList_skip 71 68 rfl ⟨#[.int .i64 k, undef, .pointer (some ⟨w.heap.size, 0, none⟩), S3 0 0 0, S3 0 0 1, S3 0 0 1, S3 0 0 1, S3 1 0 1, S3 4 0 1, S3 5 0 1, S3 0 1 0, S3 0 1 2, S3 0 2 2, S3 3 0 1, S3 3 1 0, S3 0 2 1, S3 0 2 1, S3 0 2 1, S3 0 2 1, S3 0 2 1, S3 0 1 1, S3 0 2 1, S3 0 2 1, S3 0 2 1, S3 0 1 1, S3 0 2 1, S3 0 2 1, S3 7 1 1, S3 0 2 1, S3 0 2 1, S3 0 2 1, S3 0 2 1, S3 0 1 1, S3 0 1 1, S3 0 1 1, S3 0 1 1, S3 0 1 1, S3 0 1 1, S3 0 1 1, S3 0 1 1, S3 0 1 1, S3 0 2 1, S3 0 3 1, S3 2 0 0, S3 2 1 0, S3 2 1 0, S3 6 1 1, S3 0 1 0, S3 0 1 0, S3 6 1 1, S3 6 0 1, S3 0 0 1, S3 0 2 1, S3 0 3 0, S3 0 2 0, S3 0 1 1, S3 4 1 1, S3 4 2 0, S3 4 1 1, S3 4 1 0, S3 0 1 1, S3 0 1 0, S3 0 0 1, S3 6 1 0, S3 0 0 0, S3 8 0 1, S3 0 2 0, S3 0 1 1, S3 0 1 0, S3 0 2 1, .agg shTab, undef, undef], []⟩ (by kernel_rfl) ?_
  change wpList _ _ _ (_ :: _ :: _ :: []) _ _
  go_wp2
  refine bodyPost_ret (v := .agg #[.int .i64 a, .int .i64 b, .int .i64 c]) ?_ rfl ⟨rfl, (Below.refl _ _).alloc (Nat.le_refl _) _⟩
  rw [results_cell_one rfl]
  go_simp



/-- Is it an operation's number? -/
def isOp (op : Int) : Bool := decide (0 ≤ op ∧ op < 67)
def kdI (op : Int) : Int := if isOp op then (kd op.toNat : Int) else 0
theorem isOp_nat {k : Nat} (h : k < 67) : isOp (k : Int) = true := by simp [isOp]; omega
theorem isOp_no {op : Int} (h : ¬ (0 ≤ op ∧ op < 67)) : isOp op = false := by simp only [isOp, decide_eq_false_iff_not]; exact h
theorem kdI_nat {k : Nat} (h : k < 67) : kdI (k : Int) = kd k := by rw [kdI, isOp_nat h]; simp
theorem kdI_no {op : Int} (h : ¬ (0 ≤ op ∧ op < 67)) : kdI op = 0 := by rw [kdI, isOp_no h]; simp
theorem kd_lt (k : Nat) : kd k < 9 := by
  by_cases h : k < 67
  · have : ∀ k : Fin 67, kd k.val < 9 := by decide +kernel
    exact this ⟨k, h⟩
  · have : shL.length = 67 := by decide +kernel
    simp [kd, List.getD_eq_getElem?_getD, List.getElem?_eq_none (by omega : shL.length ≤ k)]
theorem kd_tab1 : ∀ k : Fin 67, (k.val = 4 → kd k.val = 1) ∧ ((k.val = 40 ∨ k.val = 41 ∨ k.val = 42) → kd k.val = 2) ∧ ((k.val = 10 ∨ k.val = 11) → kd k.val = 3) := by decide +kernel
theorem kd_tab2 : ∀ k : Fin 67, ((k.val = 5 ∨ k.val = 53 ∨ k.val = 54 ∨ k.val = 55 ∨ k.val = 56) → kd k.val = 4) ∧ (k.val = 6 → kd k.val = 5) := by decide +kernel
theorem kd_tab3 : ∀ k : Fin 67, ((k.val = 43 ∨ k.val = 46 ∨ k.val = 47 ∨ k.val = 60) → kd k.val = 6) ∧ (k.val = 24 → kd k.val = 7) ∧ (k.val = 62 → kd k.val = 8) := by decide +kernel
theorem kd_tab4 : ∀ k : Fin 67, kd k.val = 0 ∨ k.val ∈ [4, 40, 41, 42, 10, 11, 5, 53, 54, 55, 56, 6, 43, 46, 47, 60, 24, 62] := by decide +kernel
theorem kd_tab (k : Nat) (h : k < 67) : ((k = 4 → kd k = 1) ∧ ((k = 40 ∨ k = 41 ∨ k = 42) → kd k = 2) ∧ ((k = 10 ∨ k = 11) → kd k = 3)) ∧
    (((k = 5 ∨ k = 53 ∨ k = 54 ∨ k = 55 ∨ k = 56) → kd k = 4) ∧ (k = 6 → kd k = 5)) ∧ (((k = 43 ∨ k = 46 ∨ k = 47 ∨ k = 60) → kd k = 6) ∧ (k = 24 → kd k = 7) ∧ (k = 62 → kd k = 8)) ∧
    (kd k = 0 ∨ (k = 4 ∨ k = 40 ∨ k = 41 ∨ k = 42 ∨ k = 10 ∨ k = 11 ∨ k = 5 ∨ k = 53 ∨ k = 54 ∨ k = 55 ∨ k = 56 ∨ k = 6 ∨ k = 43 ∨ k = 46 ∨ k = 47 ∨ k = 60 ∨ k = 24 ∨ k = 62)) := by
  have h4 := kd_tab4 ⟨k, h⟩
  simp only [List.mem_cons, List.not_mem_nil, or_false] at h4
  exact ⟨kd_tab1 ⟨k, h⟩, kd_tab2 ⟨k, h⟩, kd_tab3 ⟨k, h⟩, h4⟩

theorem fld3_0 (a b c : Value) (w : World) : (Instr.field 198 (.agg #[a, b, c]) 0).run Tryz.prog w = .ok a w := by kernel_rfl
set_option maxRecDepth 100000 in
set_option maxHeartbeats 1000000 in
theorem operand_any (w : World) (op : Int) : Calls Tryz.prog 157 #[.int .i64 op] w fun e w' => e = .returned (.tuple #[.int .i64 (kdI op), .bool (isOp op)]) ∧ Below w.heap.size w w' := by
  by_cases h : 0 ≤ op ∧ op < 67
  · obtain ⟨k, rfl⟩ : ∃ k : Nat, op = k := ⟨op.toNat, by omega⟩
    have hk : k < 67 := by omega
    rw [kdI_nat hk, isOp_nat hk]
    have H1 := hide (known_any w (k : Int))
    have hd : decide (0 ≤ (k : Int) ∧ (k : Int) < 67) = true := by simpa using h
    rw [hd] at H1
    have H2 := hide (fun w => shapeOf_any w k hk)
    clear h hd hk
    go_enter Tryz.func157, Tryz.ntmps157
    go_wp2_with fail
    refine (unhide H1).mono ?_
    rintro e w' ⟨rfl, rfl⟩
    go_wp2_with fail
    refine (unhide H2 _).mono ?_
    rintro e w1 ⟨rfl, hb⟩
    have HB := hide hb
    clear hb
    have hf := fld3_0
    go_wp2
    go_ret2
    exact ⟨rfl, unhide HB⟩
  · rw [kdI_no h, isOp_no h]
    have H1 := hide (known_any w op)
    have hd : decide (0 ≤ op ∧ op < 67) = false := by simpa using h
    rw [hd] at H1
    clear h hd
    go_enter Tryz.func157, Tryz.ntmps157
    go_wp2_with fail
    refine (unhide H1).mono ?_
    rintro e w' ⟨rfl, rfl⟩
    go_wp2
    go_ret2
    exact ⟨rfl, Below.refl _ _⟩

/-- Is an operand of a kind right? -/
def rightB (k : Nat) (a : Int) : Bool :=
  if k = 7 then decide (a = 8 ∨ a = 16 ∨ a = 32) else decide (lo k ≤ a ∧ a ≤ hi k)

set_option maxRecDepth 100000 in
set_option maxHeartbeats 1000000 in
theorem right_any (w : World) (k : Nat) (hk : k < 9) (a : Int) : Calls Tryz.prog 158 #[.int .i64 k, .int .i64 a] w fun e w' => e = .returned (.bool (rightB k a)) ∧ Below w.heap.size w w' := by
  by_cases h7 : k = 7
  · subst h7
    clear hk
    go_enter Tryz.func158, Tryz.ntmps158
    have h : rightB 7 a = decide (a = 8 ∨ a = 16 ∨ a = 32) := rfl
    rw [h]
    clear h
    by_cases h8 : a = 8 <;> by_cases h16 : a = 16 <;> by_cases h32 : a = 32
    all_goals try omega
    all_goals
      go_wp2
      go_ret
      refine ⟨?_, Below.refl _ _⟩
      simp_all
  · have h : rightB k a = decide (lo k ≤ a ∧ a ≤ hi k) := by rw [rightB, if_neg h7]
    rw [h]
    clear h
    have H1 := hide (spanOf_any w k hk)
    generalize lo k = l at *
    generalize hi k = m at *
    have h7' : ¬ (k : Int) = 7 := by omega
    clear hk h7
    by_cases h0 : l ≤ a <;> by_cases h1 : a ≤ m
    all_goals
      go_enter Tryz.func158, Tryz.ntmps158
      go_wp2_with fail
      refine (unhide H1).mono ?_
      rintro e w1 ⟨rfl, hb⟩
      have HB := hide hb
      clear hb
      go_wp2
      go_ret
      refine ⟨?_, ?_⟩
      · simp_all
      · exact (unhide HB).alloc (unhide HB).size _


/-- A number of 64 bits. -/
def I64 (a : Int) : Prop := -9223372036854775808 ≤ a ∧ a ≤ 9223372036854775807

/-- Is an instruction right? -/
def okB (op a : Int) : Bool := isOp op && rightB (kd op.toNat) a
def erN (op a : Int) : Int := if okB op a then 0 else 7

/-- An instruction as a value. -/
def In (op a : Int) : Value := .agg #[.int .i64 op, .int .i64 a]

theorem Bl.go {B : Nat} {w w1 w2 : World} (h : Below B w w1) (hB : B ≤ w1.heap.size) (k : Below w1.heap.size w1 w2) : Below B w w2 := h.trans (k.mono hB)
theorem Bl.par {w w1 : World} {o : Obj} (h : Below (w.alloc o).heap.size (w.alloc o) w1) : Below w.heap.size w w1 :=
  Bl.go ((Below.refl _ w).alloc (Nat.le_refl _) o) (by simp) h
/-- A parameter's cells, behind a call. -/
theorem par_cells {w w1 : World} {x y : Value} {ty : TypeId} (hb : Below (w.alloc (Obj.cells #[x, y] ty)).heap.size (w.alloc (Obj.cells #[x, y] ty)) w1) :
    w1.cell? ⟨w.heap.size, 0, none⟩ = some x ∧ w1.cell? ⟨w.heap.size, 1, none⟩ = some y := by
  refine ⟨(hb.cell (p := ⟨w.heap.size, 0, none⟩) (by simp)).trans (by simp), (hb.cell (p := ⟨w.heap.size, 1, none⟩) (by simp)).trans (by simp)⟩

theorem erN_op {k : Nat} (h : k < 67) (a : Int) : erN k a = if rightB (kd k) a then 0 else 7 := by simp [erN, okB, isOp_nat h]
theorem erN_no {op : Int} (h : ¬ (0 ≤ op ∧ op < 67)) (a : Int) : erN op a = 7 := by simp [erN, okB, isOp_no h]

set_option maxRecDepth 100000 in
set_option maxHeartbeats 1000000 in
theorem check_any (w : World) (op a : Int) : Calls Tryz.prog 121 #[.agg #[.int .i64 op, .int .i64 a]] w fun e w' => e = .returned (.int .i64 (erN op a)) ∧ Below w.heap.size w w' := by
  by_cases h : 0 ≤ op ∧ op < 67
  · obtain ⟨k, rfl⟩ : ∃ k : Nat, op = k := ⟨op.toNat, by omega⟩
    have hk : k < 67 := by omega
    have H1 := hide (fun w => operand_any w (k : Int))
    rw [kdI_nat hk, isOp_nat hk] at H1
    have H2 := hide (fun w => right_any w (kd k) (kd_lt k) a)
    have hE := hide (erN_op hk a)
    generalize ((kd k : Nat) : Int) = d at *
    generalize rightB (kd k) a = b at *
    rw [unhide hE]
    clear h hE hk
    cases b
    all_goals
      go_enter Tryz.func121, Tryz.ntmps121
      go_wp2_with fail
      refine (unhide H1 _).mono ?_
      rintro e w1 ⟨rfl, hb⟩
      have HB := hide hb
      obtain ⟨c0, c1⟩ := par_cells hb
      clear hb
      go_wp2_with fail
      refine (unhide H2 _).mono ?_
      rintro e w2 ⟨rfl, hb2⟩
      have HB2 := hide hb2
      clear hb2
      go_wp2
      go_ret
      exact ⟨rfl, Bl.go (Bl.par (unhide HB)) (by have := (unhide HB).size; simp at this; omega) (unhide HB2)⟩
  · have H1 := hide (fun w => operand_any w op)
    rw [kdI_no h, isOp_no h] at H1
    rw [erN_no h]
    clear h
    go_enter Tryz.func121, Tryz.ntmps121
    go_wp2_with fail
    refine (unhide H1 _).mono ?_
    rintro e w1 ⟨rfl, hb⟩
    have HB := hide hb
    obtain ⟨c0, c1⟩ := par_cells hb
    clear hb
    go_wp2
    go_ret
    exact ⟨rfl, Bl.par (unhide HB)⟩

/-- Does an operation jump? -/
def jmB (op : Int) : Bool := decide (op = 40 ∨ op = 41 ∨ op = 42)
def enB (op : Int) : Bool := decide (op = 40 ∨ op = 44 ∨ op = 45)
theorem jm_kd (k : Nat) (h : k < 67) : jmB (k : Int) = decide ((kd k : Int) = 2) := by
  have := kd_tab k h
  unfold jmB
  rw [decide_eq_decide]
  generalize kd k = d at *
  omega
theorem jm_no {op : Int} (h : ¬ (0 ≤ op ∧ op < 67)) : jmB op = false := by unfold jmB; rw [decide_eq_false_iff_not]; omega

end Go.Proofs.YtlogmdldjmkkjaaGreatDoor
